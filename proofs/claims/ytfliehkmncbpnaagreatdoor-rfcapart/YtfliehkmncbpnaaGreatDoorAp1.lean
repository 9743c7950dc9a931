/-
  The law RfcApart: its regions that draw their order, and its walk, out of the contracts.
-/
import Derived.Test.YtfliehkmncbpnaaGreatDoorAwk3
namespace Go.Proofs.YtfliehkmncbpnaaGreatDoor
open Go.RowKit
theorem Four.plain {w : World} {n0 : Nat} {A1 A2 A3 A4 : Option Addr} {c1 c2 c3 c4 : Nat} {M D : List Int} {K : List (Int × Int)} {P : List Int} {tD tW tP : Nat} (h : Four w n0 A1 A2 A3 A4 c1 c2 c3 c4 M D K P tD tW tP) : PlainR w A1 A2 A3 A4 M D K P :=
  ⟨h.oM.plain, h.oD.plain, h.oW.plain, h.oP.plain, h.lists.lm, h.lists.ld, h.lists.lk, h.lists.lp⟩
theorem odd_not' {f : Int} {M D : List Int} {W : List (Int × Int)} {P : List Int} (h1 : f = 1 → D = []) (h2 : P ≠ [] → 0 < M.length + D.length + W.length) : Rul.odd f M D W P = false := by
  have a1 : (f == 1 && decide (0 < D.length)) = false := by
    by_cases hf : f = 1
    · rw [h1 hf]; simp
    · simp [hf]
  have a2 : (decide (0 < P.length) && !(decide (0 < M.length) || decide (0 < D.length) || decide (0 < W.length))) = false := by
    by_cases hp : P = []
    · rw [hp]; simp
    · have h3 : 0 < M.length ∨ 0 < D.length ∨ 0 < W.length := by have := h2 hp; omega
      rcases h3 with h3 | h3 | h3
      · rw [decide_eq_true h3]; simp
      · rw [decide_eq_true h3]; simp
      · rw [decide_eq_true h3]; simp
  unfold Rul.odd
  rw [a1, a2]
  rfl
/-- what Make makes may be printed -/
theorem make_okay {w : World} {F I E C U : Int} {AM AD AW AP : Option Addr} {lm ld : List Int} {lw : List (Int × Int)} {lp : List Int} (hX : XIn w F I E C U AM AD AW AP lm ld lw lp) (h1 : lm.length ≤ 64) (h2 : ld.length ≤ 64) (h3 : lw.length ≤ 64) (h4 : lp.length ≤ 64) :
    Rul.check (F.tmod 4) (Mk.iv I) (Mk.cnt E C) (Mk.unt E U) (Mk.mon lm) (Mk.D F ld) ((Mk.W F lw).map (·.1)) (Mk.P F lm ld lw lp) = 0 ∧ (0 ≤ F.tmod 4 ∧ F.tmod 4 ≤ 3) ∧ (∀ x ∈ ((Mk.W F lw).map (·.1)), 0 ≤ x.2 ∧ x.2 ≤ 6) ∧ ∃ t, Okay (F.tmod 4) (Mk.iv I) (Mk.cnt E C) (Mk.unt E U) t (Mk.mon lm) (Mk.D F ld) ((Mk.W F lw).map (·.1)) (Mk.P F lm ld lw lp) := by
  obtain ⟨k1, k2, k3, k4, k5, k6, k7, k8, k9, k10, k11, k12, k13, k14⟩ := make_ok hX h1 h2 h3 h4
  have hf : 0 ≤ F.tmod 4 ∧ F.tmod 4 ≤ 3 := by
    rw [Int.tmod_eq_emod_of_nonneg hX.bF.1]
    omega
  have hc : 0 ≤ Mk.cnt E C ∧ Mk.cnt E C ≤ 9999 := by
    have := Int.tmod_eq_emod_of_nonneg (b := 9999) hX.bC.1
    unfold Mk.cnt; split <;> omega
  have hu : 0 ≤ Mk.unt E U ∧ Mk.unt E U ≤ 3652059 := by
    have := Int.tmod_eq_emod_of_nonneg (b := 3652059) hX.bU.1
    unfold Mk.unt; split <;> omega
  have hw : ∀ x ∈ ((Mk.W F lw).map (·.1)), (-53 ≤ x.1 ∧ x.1 ≤ 53) ∧ (0 ≤ x.2 ∧ x.2 ≤ 6) := fun x hx => by
    have := k3.i x hx
    have hm := Rul.most_bd (F.tmod 4)
    simp [Rul.inW, Rul.btw] at this
    omega
  have hck : Rul.check (F.tmod 4) (Mk.iv I) (Mk.cnt E C) (Mk.unt E U) (Mk.mon lm) (Mk.D F ld) ((Mk.W F lw).map (·.1)) (Mk.P F lm ld lw lp) = 0 := by
    have b3 : Rul.lists (F.tmod 4) (Mk.mon lm) (Mk.D F ld) ((Mk.W F lw).map (·.1)) (Mk.P F lm ld lw lp) = 0 := by
      simp only [Rul.lists, k1.chk k5, k2.chk k6, k3.chk k7, k4.chk k8]
      rfl
    unfold Rul.check Rul.nums
    rw [k9, k12, k13, b3, odd_not' k10 k11]
    rfl
  refine ⟨hck, hf, fun x hx => (hw x hx).2, ?_⟩
  have hun : ∃ t, Rfc.Un (Mk.unt E U) t := by
    by_cases h : Mk.unt E U = 0
    · exact ⟨[], .inl ⟨h, rfl⟩⟩
    · obtain ⟨y, m, d, hi⟩ := Cal.is_ex (Mk.unt E U) (by omega) hu.2
      exact ⟨_, .inr ⟨y, m, d, hi, rfl⟩⟩
  obtain ⟨t, ht⟩ := hun
  refine ⟨t, hf, by omega, by omega, ht, by omega, by omega, by omega, by omega, fun x hx => ?_, fun x hx => ?_, fun x hx => ⟨by have := hw x hx; omega, (hw x hx).2⟩, fun x hx => ?_⟩
  · have := k1.i x hx; simp [Rul.inM, Rul.btw] at this; omega
  · have := k2.i x hx; simp [Rul.inD, Rul.btw] at this; omega
  · have := k4.i x hx; simp [Rul.inP, Rul.btw] at this; omega
theorem same_text {f iv c u f' iv' c' u' : Int} {t t' : List UInt8} {M D M' D' : List Int} {K K' : List (Int × Int)} {P P' : List Int} (h : Okay f iv c u t M D K P) (h' : Okay f' iv' c' u' t' M' D' K' P') :
    (Rfc.text f iv c t M D K P == Rfc.text f' iv' c' t' M' D' K' P') = sameB f iv c u M D K P f' iv' c' u' M' D' K' P' := by
  rw [Bool.eq_iff_iff, beq_iff_eq]
  constructor
  · intro e
    obtain ⟨rfl, rfl, rfl, rfl, rfl, rfl, rfl, rfl⟩ := Rfc.text_inj h.f h'.f h.u h'.u (fun x hx => (h.k x hx).2) (fun x hx => (h'.k x hx).2) e
    exact sameB_self _ _ _ _ _ _ _ _
  · intro e
    simp only [sameB, Bool.and_eq_true, beq_iff_eq] at e
    obtain ⟨⟨⟨⟨⟨⟨⟨rfl, rfl⟩, rfl⟩, rfl⟩, rfl⟩, rfl⟩, rfl⟩, rfl⟩ := e
    rw [Rfc.un_fun h.u h'.u]
noncomputable def ap8 : Array Oper := (Tryz.f3.body.bind (regOf 8)).getD #[]
set_option maxRecDepth 100000 in
set_option maxHeartbeats 2000000 in
theorem regAp8 (a : Act) (w : World) (Q : Exit → Act → World → Prop) (hQ : Blind Q) (b3 b4 : Nat) (F I E C U : Int) (AM AD AW AP : Option Addr) (cM cD cW cP : Nat) (lm ld : List Int) (lw : List (Int × Int)) (lp : List Int) (F' I' E' C' U' : Int) (AM' AD' AW' AP' : Option Addr) (cM' cD' cW' cP' : Nat) (lm' ld' : List Int) (lw' : List (Int × Int)) (lp' : List Int) (df : List _) (hd : a.defers = df) (hs : a.tmps.size = 42) (h3 : a.tmps.getD 3 undef = .pointer (some ⟨b3, 0, none⟩)) (h4 : a.tmps.getD 4 undef = .pointer (some ⟨b4, 0, none⟩))
    (B7 : Blk w b3 29 #[.int .u8 F, .int .u8 I, .int .u8 E, .int .u16 C, .int .u32 U, .slice AM lm.length cM, .slice AD ld.length cD, .slice AW lw.length cW, .slice AP lp.length cP]) (B8 : Blk w b4 29 #[.int .u8 F', .int .u8 I', .int .u8 E', .int .u16 C', .int .u32 U', .slice AM' lm'.length cM', .slice AD' ld'.length cD', .slice AW' lw'.length cW', .slice AP' lp'.length cP']) (hX : XIn w F I E C U AM AD AW AP lm ld lw lp) (hY : XIn w F' I' E' C' U' AM' AD' AW' AP' lm' ld' lw' lp')
    (hR : ∀ (a' : Act) (w' : World) (bp bq : Nat) (A1 A2 A3 A4 B1 B2 B3 B4 : Option Addr) (c1 c2 c3 c4 d1 d2 d3 d4 : Nat), a'.tmps.size = 42 → a'.defers = df → a'.tmps.getD 7 undef = .pointer (some ⟨bp, 0, none⟩) → a'.tmps.getD 8 undef = .pointer (some ⟨bq, 0, none⟩) → Blk w' bp 36 #[.int .i64 (F.tmod 4), .int .i64 (Mk.iv I), .int .i64 (Mk.cnt E C), .int .i64 (Mk.unt E U), .slice A1 (Mk.mon lm).length c1, .slice A2 (Mk.D F ld).length c2, .slice A3 ((Mk.W F lw).map (·.1)).length c3, .slice A4 (Mk.P F lm ld lw lp).length c4] → Blk w' bq 36 #[.int .i64 (F'.tmod 4), .int .i64 (Mk.iv I'), .int .i64 (Mk.cnt E' C'), .int .i64 (Mk.unt E' U'), .slice B1 (Mk.mon lm').length d1, .slice B2 (Mk.D F' ld').length d2, .slice B3 ((Mk.W F' lw').map (·.1)).length d3, .slice B4 (Mk.P F' lm' ld' lw' lp').length d4] → PlainR w' A1 A2 A3 A4 (Mk.mon lm) (Mk.D F ld) ((Mk.W F lw).map (·.1)) (Mk.P F lm ld lw lp) → PlainR w' B1 B2 B3 B4 (Mk.mon lm') (Mk.D F' ld') ((Mk.W F' lw').map (·.1)) (Mk.P F' lm' ld' lw' lp') → Below w.heap.size w w' → Q .normal a' w') :
    (Code.region 8 ap8 true).wp Tryz.prog Q a w := by
  conv => arg 2; arg 2; whnf
  refine wp_region_held_drew (S := fun w' => Below w.heap.size w w') (by kernel_rfl) (below_drew (Below.refl _ _)) (fun lz => ?_)
  obtain ⟨u0, hu⟩ : ∃ u0, u0 = w.drew := ⟨_, rfl⟩
  rw [← hu] at lz ⊢
  clear hu
  refine heldL 0 29 (v := .agg #[.int .u8 F, .int .u8 I, .int .u8 E, .int .u16 C, .int .u32 U, .slice AM lm.length cM, .slice AD ld.length cD, .slice AW lw.length cW, .slice AP lp.length cP]) hQ (by kernel_rfl) (frZ hs) (by kernel_rfl) (by kernel_rfl) (by kernel_rfl) lz ?z509 ?z510
  case z509 => (intro o ho; obtain rfl := Option.some.inj ho; exact Or.inl ⟨rfl, fun w1 h1w => k_load9 rfl (ev_tmp h3) (B7.below h1w B7.lt)⟩)
  case z510 =>
  refine frN2 hs hd h3 h4 ?_; clear hs hd h3 h4; intro a hs hd h3 h4 h29
  refine heldL 2 31 (v := .agg #[.int .u8 F', .int .u8 I', .int .u8 E', .int .u16 C', .int .u32 U', .slice AM' lm'.length cM', .slice AD' ld'.length cD', .slice AW' lw'.length cW', .slice AP' lp'.length cP']) hQ (by kernel_rfl) (frZ hs) (by kernel_rfl) (by kernel_rfl) (by kernel_rfl) lz ?z511 ?z512
  case z511 => (intro o ho; obtain rfl := Option.some.inj ho; exact Or.inl ⟨rfl, fun w1 h1w => k_load9 rfl (ev_tmp h4) (B8.below h1w B8.lt)⟩)
  case z512 =>
  refine frN3 hs hd h3 h4 h29 ?_; clear hs hd h3 h4 h29; intro a hs hd h3 h4 h29 h31
  have lz0 := lz
  refine heldL_three 1 4 5 (by kernel_rfl) ?z513 ?z514 ?z515
  case z513 =>
    have hc := make_any' F I E C U AM AD AW AP cM cD cW cP lm ld lw lp u0 (hX.below lz)
    have hx := fun ops Q S fuel listed d a i h1 h2 h3 => cont_call (P := Tryz.prog) (ops := ops) (Q := Q) (S := S) (fuel := fuel) (listed := listed) (a := a) (w := u0) i d h1 h2 h3 hc
    refine hx _ _ _ _ _ 30 _ 1 ?z519 ?z520 ?z516 ?z518 ?z517
    case z519 => kernel_rfl
    case z520 => (rw [hs]; decide)
    case z516 => exact frY rfl (c_Make rfl rfl (ev_tmp h29))
    case z518 => (rintro _ _ ⟨_, _, _, _, _, _, _, _, _, _, _, rfl, _, l⟩; exact lz.trans (l.mono lz.size))
    case z517 =>
    clear hx hc
    rintro _ u1 a ⟨A1, A2, A3, A4, c1, c2, c3, c4, tD, tW, tP, rfl, Fp, l⟩ F0
    replace hs := F0.z.trans hs
    replace hd := F0.e.trans hd
    replace h3 := (F0.n 3 (by decide)).trans h3
    replace h4 := (F0.n 4 (by decide)).trans h4
    replace h29 := (F0.n 29 (by decide)).trans h29
    replace h31 := (F0.n 31 (by decide)).trans h31
    have h30 := F0.s
    clear F0
    have tp0 := fun g hg => (Fp.oM.lt g hg).2
    have tp1 := fun g hg => (Fp.oD.lt g hg).2
    have tp2 := fun g hg => (Fp.oW.lt g hg).2
    have tp3 := fun g hg => (Fp.oP.lt g hg).2
    have hz0 := l.size
    replace lz := lz.trans (l.mono lz.size)
    clear l
    refine heldL_three 3 4 5 (by kernel_rfl) ?z521 ?z522 ?z523
    case z521 =>
      have hc := make_any' F' I' E' C' U' AM' AD' AW' AP' cM' cD' cW' cP' lm' ld' lw' lp' u1 (hY.below lz)
      have hx := fun ops Q S fuel listed d a i h1 h2 h3 => cont_call (P := Tryz.prog) (ops := ops) (Q := Q) (S := S) (fuel := fuel) (listed := listed) (a := a) (w := u1) i d h1 h2 h3 hc
      refine hx _ _ _ _ _ 32 _ 3 ?z527 ?z528 ?z524 ?z526 ?z525
      case z527 => kernel_rfl
      case z528 => (rw [hs]; decide)
      case z524 => exact frY rfl (c_Make rfl rfl (ev_tmp h31))
      case z526 => (rintro _ _ ⟨_, _, _, _, _, _, _, _, _, _, _, rfl, _, l⟩; exact lz.trans (l.mono lz.size))
      case z525 =>
      clear hx hc
      rintro _ u2 a ⟨B1, B2, B3, B4, d1, d2, d3, d4, sD, sW, sP, rfl, Fq, l⟩ F0
      replace hs := F0.z.trans hs
      replace hd := F0.e.trans hd
      replace h3 := (F0.n 3 (by decide)).trans h3
      replace h4 := (F0.n 4 (by decide)).trans h4
      replace h29 := (F0.n 29 (by decide)).trans h29
      replace h31 := (F0.n 31 (by decide)).trans h31
      replace h30 := (F0.n 30 (by decide)).trans h30
      have h32 := F0.s
      clear F0
      have tq0 := fun g hg => (Fq.oM.lt g hg).2
      have tq1 := fun g hg => (Fq.oD.lt g hg).2
      have tq2 := fun g hg => (Fq.oW.lt g hg).2
      have tq3 := fun g hg => (Fq.oP.lt g hg).2
      have hz1 := l.size
      replace lz := lz.trans (l.mono lz.size)
      replace Fp := Fp.below l
      clear l
      refine heldL_two 4 5 (by kernel_rfl) ?z529 ?z530
      case z529 =>
        refine cont_val 4 7 (v := .pointer (some ⟨u2.heap.size, 0, none⟩)) (w' := u2.alloc (.cells #[.int .i64 0, .int .i64 0, .int .i64 0, .int .i64 0, .slice none 0 0, .slice none 0 0, .slice none 0 0, .slice none 0 0] 36)) (by kernel_rfl) (frZ hs) ?z531 (lz.trans (((Below.refl _ _).alloc (Nat.le_refl _) _).mono lz.size)) ?z532
        case z531 => exact frY rfl (k_allocR rfl)
        case z532 =>
        refine frN6 hs hd h3 h4 h29 h31 h30 h32 ?_; clear hs hd h3 h4 h29 h31 h30 h32; intro a hs hd h3 h4 h29 h31 h30 h32 h7
        obtain ⟨u3, hwn⟩ : ∃ wn, wn = u2.alloc (.cells #[.int .i64 0, .int .i64 0, .int .i64 0, .int .i64 0, .slice none 0 0, .slice none 0 0, .slice none 0 0, .slice none 0 0] 36) := ⟨_, rfl⟩
        rw [← hwn]
        have qn : Blk u3 u2.heap.size 36 #[.int .i64 0, .int .i64 0, .int .i64 0, .int .i64 0, .slice none 0 0, .slice none 0 0, .slice none 0 0, .slice none 0 0] := by rw [hwn]; exact Blk.alloc _ _ _
        have ln : Below u2.heap.size u2 u3 := by rw [hwn]; exact (Below.refl _ _).alloc (Nat.le_refl _) _
        clear hwn
        have l := ln
        clear ln
        have hz2 := qn.lt
        have Q7 := qn
        clear qn
        replace lz := lz.trans (l.mono lz.size)
        replace Fp := Fp.below l
        replace Fq := Fq.below l
        clear l
        refine heldL_one 5 (by kernel_rfl) ?z536
        case z536 =>
          refine cont_val 5 8 (v := .pointer (some ⟨u3.heap.size, 0, none⟩)) (w' := u3.alloc (.cells #[.int .i64 0, .int .i64 0, .int .i64 0, .int .i64 0, .slice none 0 0, .slice none 0 0, .slice none 0 0, .slice none 0 0] 36)) (by kernel_rfl) (frZ hs) ?z537 (lz.trans (((Below.refl _ _).alloc (Nat.le_refl _) _).mono lz.size)) ?z538
          case z537 => exact frY rfl (k_allocR rfl)
          case z538 =>
          refine frN7 hs hd h3 h4 h29 h31 h30 h32 h7 ?_; clear hs hd h3 h4 h29 h31 h30 h32 h7; intro a hs hd h3 h4 h29 h31 h30 h32 h7 h8
          obtain ⟨u4, hwn⟩ : ∃ wn, wn = u3.alloc (.cells #[.int .i64 0, .int .i64 0, .int .i64 0, .int .i64 0, .slice none 0 0, .slice none 0 0, .slice none 0 0, .slice none 0 0] 36) := ⟨_, rfl⟩
          rw [← hwn]
          have qn : Blk u4 u3.heap.size 36 #[.int .i64 0, .int .i64 0, .int .i64 0, .int .i64 0, .slice none 0 0, .slice none 0 0, .slice none 0 0, .slice none 0 0] := by rw [hwn]; exact Blk.alloc _ _ _
          have ln : Below u3.heap.size u3 u4 := by rw [hwn]; exact (Below.refl _ _).alloc (Nat.le_refl _) _
          clear hwn
          have l := ln
          clear ln
          have hz3 := qn.lt
          have Q8 := qn
          clear qn
          replace lz := lz.trans (l.mono lz.size)
          replace Fp := Fp.below l
          replace Fq := Fq.below l
          replace Q7 := Q7.below l Q7.lt
          clear l
          have z0 := lz0.size
          have e6 := exc_setRow u4 (u2.heap.size) #[.int .i64 (F.tmod 4), .int .i64 (Mk.iv I), .int .i64 (Mk.cnt E C), .int .i64 (Mk.unt E U), .slice A1 (Mk.mon lm).length c1, .slice A2 (Mk.D F ld).length c2, .slice A3 ((Mk.W F lw).map (·.1)).length c3, .slice A4 (Mk.P F lm ld lw lp).length c4]
          have c13 := Q7.setRow (cs := #[.int .i64 (F.tmod 4), .int .i64 (Mk.iv I), .int .i64 (Mk.cnt E C), .int .i64 (Mk.unt E U), .slice A1 (Mk.mon lm).length c1, .slice A2 (Mk.D F ld).length c2, .slice A3 ((Mk.W F lw).map (·.1)).length c3, .slice A4 (Mk.P F lm ld lw lp).length c4])
          have c14 := Q8.exc (e6 u4.heap.size) Q8.lt (by omega)
          have Gp := Fp.exc (e6 u4.heap.size) (by omega) tp0 tp1 tp2 tp3
          have Gq := Fq.exc (e6 u4.heap.size) (by omega) tq0 tq1 tq2 tq3
          refine heldL_store 6 (w' := u4.setRow (u2.heap.size) #[.int .i64 (F.tmod 4), .int .i64 (Mk.iv I), .int .i64 (Mk.cnt E C), .int .i64 (Mk.unt E U), .slice A1 (Mk.mon lm).length c1, .slice A2 (Mk.D F ld).length c2, .slice A3 ((Mk.W F lw).map (·.1)).length c3, .slice A4 (Mk.P F lm ld lw lp).length c4]) (by kernel_rfl) (by kernel_rfl) ?z542 (lz.trans ((e6 w.heap.size).below (by omega))) ?z543
          case z542 => exact frY rfl (k_storeR rfl (ev_tmp h7) (ev_tmp h30) Q7 rfl rfl (by simp [Value.oneCell']))
          case z543 =>
          have e7 := exc_setRow (u4.setRow (u2.heap.size) #[.int .i64 (F.tmod 4), .int .i64 (Mk.iv I), .int .i64 (Mk.cnt E C), .int .i64 (Mk.unt E U), .slice A1 (Mk.mon lm).length c1, .slice A2 (Mk.D F ld).length c2, .slice A3 ((Mk.W F lw).map (·.1)).length c3, .slice A4 (Mk.P F lm ld lw lp).length c4]) (u3.heap.size) #[.int .i64 (F'.tmod 4), .int .i64 (Mk.iv I'), .int .i64 (Mk.cnt E' C'), .int .i64 (Mk.unt E' U'), .slice B1 (Mk.mon lm').length d1, .slice B2 (Mk.D F' ld').length d2, .slice B3 ((Mk.W F' lw').map (·.1)).length d3, .slice B4 (Mk.P F' lm' ld' lw' lp').length d4]
          have g14 := c14.setRow (cs := #[.int .i64 (F'.tmod 4), .int .i64 (Mk.iv I'), .int .i64 (Mk.cnt E' C'), .int .i64 (Mk.unt E' U'), .slice B1 (Mk.mon lm').length d1, .slice B2 (Mk.D F' ld').length d2, .slice B3 ((Mk.W F' lw').map (·.1)).length d3, .slice B4 (Mk.P F' lm' ld' lw' lp').length d4])
          have g13 := c13.exc (e7 _) c13.lt (by omega)
          have Hp := (Gp.exc (e7 _) (by omega) tp0 tp1 tp2 tp3).plain
          have Hq := (Gq.exc (e7 _) (by omega) tq0 tq1 tq2 tq3).plain
          have lzz := (lz.trans ((e6 w.heap.size).below (by omega))).trans ((e7 w.heap.size).below (by omega))
          refine heldL_store 7 (w' := (u4.setRow (u2.heap.size) #[.int .i64 (F.tmod 4), .int .i64 (Mk.iv I), .int .i64 (Mk.cnt E C), .int .i64 (Mk.unt E U), .slice A1 (Mk.mon lm).length c1, .slice A2 (Mk.D F ld).length c2, .slice A3 ((Mk.W F lw).map (·.1)).length c3, .slice A4 (Mk.P F lm ld lw lp).length c4]).setRow (u3.heap.size) #[.int .i64 (F'.tmod 4), .int .i64 (Mk.iv I'), .int .i64 (Mk.cnt E' C'), .int .i64 (Mk.unt E' U'), .slice B1 (Mk.mon lm').length d1, .slice B2 (Mk.D F' ld').length d2, .slice B3 ((Mk.W F' lw').map (·.1)).length d3, .slice B4 (Mk.P F' lm' ld' lw' lp').length d4]) (by kernel_rfl) (by kernel_rfl) ?z544 lzz ?z545
          case z544 => exact frY rfl (k_storeR rfl (ev_tmp h8) (ev_tmp h32) c14 rfl rfl (by simp [Value.oneCell']))
          case z545 =>
          refine wpAnyH_done (by kernel_rfl) ?_ _
          exact hR a _ _ _ A1 A2 A3 A4 B1 B2 B3 B4 c1 c2 c3 c4 d1 d2 d3 d4 hs hd h7 h8 g13 g14 Hp Hq lzz
      case z530 =>
        refine cont_val 5 8 (v := .pointer (some ⟨u2.heap.size, 0, none⟩)) (w' := u2.alloc (.cells #[.int .i64 0, .int .i64 0, .int .i64 0, .int .i64 0, .slice none 0 0, .slice none 0 0, .slice none 0 0, .slice none 0 0] 36)) (by kernel_rfl) (frZ hs) ?z546 (lz.trans (((Below.refl _ _).alloc (Nat.le_refl _) _).mono lz.size)) ?z547
        case z546 => exact frY rfl (k_allocR rfl)
        case z547 =>
        refine frN6 hs hd h3 h4 h29 h31 h30 h32 ?_; clear hs hd h3 h4 h29 h31 h30 h32; intro a hs hd h3 h4 h29 h31 h30 h32 h8
        obtain ⟨u3, hwn⟩ : ∃ wn, wn = u2.alloc (.cells #[.int .i64 0, .int .i64 0, .int .i64 0, .int .i64 0, .slice none 0 0, .slice none 0 0, .slice none 0 0, .slice none 0 0] 36) := ⟨_, rfl⟩
        rw [← hwn]
        have qn : Blk u3 u2.heap.size 36 #[.int .i64 0, .int .i64 0, .int .i64 0, .int .i64 0, .slice none 0 0, .slice none 0 0, .slice none 0 0, .slice none 0 0] := by rw [hwn]; exact Blk.alloc _ _ _
        have ln : Below u2.heap.size u2 u3 := by rw [hwn]; exact (Below.refl _ _).alloc (Nat.le_refl _) _
        clear hwn
        have l := ln
        clear ln
        have hz2 := qn.lt
        have Q8 := qn
        clear qn
        replace lz := lz.trans (l.mono lz.size)
        replace Fp := Fp.below l
        replace Fq := Fq.below l
        clear l
        refine heldL_one 4 (by kernel_rfl) ?z551
        case z551 =>
          refine cont_val 4 7 (v := .pointer (some ⟨u3.heap.size, 0, none⟩)) (w' := u3.alloc (.cells #[.int .i64 0, .int .i64 0, .int .i64 0, .int .i64 0, .slice none 0 0, .slice none 0 0, .slice none 0 0, .slice none 0 0] 36)) (by kernel_rfl) (frZ hs) ?z552 (lz.trans (((Below.refl _ _).alloc (Nat.le_refl _) _).mono lz.size)) ?z553
          case z552 => exact frY rfl (k_allocR rfl)
          case z553 =>
          refine frN7 hs hd h3 h4 h29 h31 h30 h32 h8 ?_; clear hs hd h3 h4 h29 h31 h30 h32 h8; intro a hs hd h3 h4 h29 h31 h30 h32 h8 h7
          obtain ⟨u4, hwn⟩ : ∃ wn, wn = u3.alloc (.cells #[.int .i64 0, .int .i64 0, .int .i64 0, .int .i64 0, .slice none 0 0, .slice none 0 0, .slice none 0 0, .slice none 0 0] 36) := ⟨_, rfl⟩
          rw [← hwn]
          have qn : Blk u4 u3.heap.size 36 #[.int .i64 0, .int .i64 0, .int .i64 0, .int .i64 0, .slice none 0 0, .slice none 0 0, .slice none 0 0, .slice none 0 0] := by rw [hwn]; exact Blk.alloc _ _ _
          have ln : Below u3.heap.size u3 u4 := by rw [hwn]; exact (Below.refl _ _).alloc (Nat.le_refl _) _
          clear hwn
          have l := ln
          clear ln
          have hz3 := qn.lt
          have Q7 := qn
          clear qn
          replace lz := lz.trans (l.mono lz.size)
          replace Fp := Fp.below l
          replace Fq := Fq.below l
          replace Q8 := Q8.below l Q8.lt
          clear l
          have z0 := lz0.size
          have e6 := exc_setRow u4 (u3.heap.size) #[.int .i64 (F.tmod 4), .int .i64 (Mk.iv I), .int .i64 (Mk.cnt E C), .int .i64 (Mk.unt E U), .slice A1 (Mk.mon lm).length c1, .slice A2 (Mk.D F ld).length c2, .slice A3 ((Mk.W F lw).map (·.1)).length c3, .slice A4 (Mk.P F lm ld lw lp).length c4]
          have c13 := Q7.setRow (cs := #[.int .i64 (F.tmod 4), .int .i64 (Mk.iv I), .int .i64 (Mk.cnt E C), .int .i64 (Mk.unt E U), .slice A1 (Mk.mon lm).length c1, .slice A2 (Mk.D F ld).length c2, .slice A3 ((Mk.W F lw).map (·.1)).length c3, .slice A4 (Mk.P F lm ld lw lp).length c4])
          have c14 := Q8.exc (e6 u4.heap.size) Q8.lt (by omega)
          have Gp := Fp.exc (e6 u4.heap.size) (by omega) tp0 tp1 tp2 tp3
          have Gq := Fq.exc (e6 u4.heap.size) (by omega) tq0 tq1 tq2 tq3
          refine heldL_store 6 (w' := u4.setRow (u3.heap.size) #[.int .i64 (F.tmod 4), .int .i64 (Mk.iv I), .int .i64 (Mk.cnt E C), .int .i64 (Mk.unt E U), .slice A1 (Mk.mon lm).length c1, .slice A2 (Mk.D F ld).length c2, .slice A3 ((Mk.W F lw).map (·.1)).length c3, .slice A4 (Mk.P F lm ld lw lp).length c4]) (by kernel_rfl) (by kernel_rfl) ?z557 (lz.trans ((e6 w.heap.size).below (by omega))) ?z558
          case z557 => exact frY rfl (k_storeR rfl (ev_tmp h7) (ev_tmp h30) Q7 rfl rfl (by simp [Value.oneCell']))
          case z558 =>
          have e7 := exc_setRow (u4.setRow (u3.heap.size) #[.int .i64 (F.tmod 4), .int .i64 (Mk.iv I), .int .i64 (Mk.cnt E C), .int .i64 (Mk.unt E U), .slice A1 (Mk.mon lm).length c1, .slice A2 (Mk.D F ld).length c2, .slice A3 ((Mk.W F lw).map (·.1)).length c3, .slice A4 (Mk.P F lm ld lw lp).length c4]) (u2.heap.size) #[.int .i64 (F'.tmod 4), .int .i64 (Mk.iv I'), .int .i64 (Mk.cnt E' C'), .int .i64 (Mk.unt E' U'), .slice B1 (Mk.mon lm').length d1, .slice B2 (Mk.D F' ld').length d2, .slice B3 ((Mk.W F' lw').map (·.1)).length d3, .slice B4 (Mk.P F' lm' ld' lw' lp').length d4]
          have g14 := c14.setRow (cs := #[.int .i64 (F'.tmod 4), .int .i64 (Mk.iv I'), .int .i64 (Mk.cnt E' C'), .int .i64 (Mk.unt E' U'), .slice B1 (Mk.mon lm').length d1, .slice B2 (Mk.D F' ld').length d2, .slice B3 ((Mk.W F' lw').map (·.1)).length d3, .slice B4 (Mk.P F' lm' ld' lw' lp').length d4])
          have g13 := c13.exc (e7 _) c13.lt (by omega)
          have Hp := (Gp.exc (e7 _) (by omega) tp0 tp1 tp2 tp3).plain
          have Hq := (Gq.exc (e7 _) (by omega) tq0 tq1 tq2 tq3).plain
          have lzz := (lz.trans ((e6 w.heap.size).below (by omega))).trans ((e7 w.heap.size).below (by omega))
          refine heldL_store 7 (w' := (u4.setRow (u3.heap.size) #[.int .i64 (F.tmod 4), .int .i64 (Mk.iv I), .int .i64 (Mk.cnt E C), .int .i64 (Mk.unt E U), .slice A1 (Mk.mon lm).length c1, .slice A2 (Mk.D F ld).length c2, .slice A3 ((Mk.W F lw).map (·.1)).length c3, .slice A4 (Mk.P F lm ld lw lp).length c4]).setRow (u2.heap.size) #[.int .i64 (F'.tmod 4), .int .i64 (Mk.iv I'), .int .i64 (Mk.cnt E' C'), .int .i64 (Mk.unt E' U'), .slice B1 (Mk.mon lm').length d1, .slice B2 (Mk.D F' ld').length d2, .slice B3 ((Mk.W F' lw').map (·.1)).length d3, .slice B4 (Mk.P F' lm' ld' lw' lp').length d4]) (by kernel_rfl) (by kernel_rfl) ?z559 lzz ?z560
          case z559 => exact frY rfl (k_storeR rfl (ev_tmp h8) (ev_tmp h32) c14 rfl rfl (by simp [Value.oneCell']))
          case z560 =>
          refine wpAnyH_done (by kernel_rfl) ?_ _
          exact hR a _ _ _ A1 A2 A3 A4 B1 B2 B3 B4 c1 c2 c3 c4 d1 d2 d3 d4 hs hd h7 h8 g13 g14 Hp Hq lzz
    case z522 =>
      refine cont_val 4 7 (v := .pointer (some ⟨u1.heap.size, 0, none⟩)) (w' := u1.alloc (.cells #[.int .i64 0, .int .i64 0, .int .i64 0, .int .i64 0, .slice none 0 0, .slice none 0 0, .slice none 0 0, .slice none 0 0] 36)) (by kernel_rfl) (frZ hs) ?z561 (lz.trans (((Below.refl _ _).alloc (Nat.le_refl _) _).mono lz.size)) ?z562
      case z561 => exact frY rfl (k_allocR rfl)
      case z562 =>
      refine frN5 hs hd h3 h4 h29 h31 h30 ?_; clear hs hd h3 h4 h29 h31 h30; intro a hs hd h3 h4 h29 h31 h30 h7
      obtain ⟨u2, hwn⟩ : ∃ wn, wn = u1.alloc (.cells #[.int .i64 0, .int .i64 0, .int .i64 0, .int .i64 0, .slice none 0 0, .slice none 0 0, .slice none 0 0, .slice none 0 0] 36) := ⟨_, rfl⟩
      rw [← hwn]
      have qn : Blk u2 u1.heap.size 36 #[.int .i64 0, .int .i64 0, .int .i64 0, .int .i64 0, .slice none 0 0, .slice none 0 0, .slice none 0 0, .slice none 0 0] := by rw [hwn]; exact Blk.alloc _ _ _
      have ln : Below u1.heap.size u1 u2 := by rw [hwn]; exact (Below.refl _ _).alloc (Nat.le_refl _) _
      clear hwn
      have l := ln
      clear ln
      have hz1 := qn.lt
      have Q7 := qn
      clear qn
      replace lz := lz.trans (l.mono lz.size)
      replace Fp := Fp.below l
      clear l
      refine heldL_two 3 5 (by kernel_rfl) ?z566 ?z567
      case z566 =>
        have hc := make_any' F' I' E' C' U' AM' AD' AW' AP' cM' cD' cW' cP' lm' ld' lw' lp' u2 (hY.below lz)
        have hx := fun ops Q S fuel listed d a i h1 h2 h3 => cont_call (P := Tryz.prog) (ops := ops) (Q := Q) (S := S) (fuel := fuel) (listed := listed) (a := a) (w := u2) i d h1 h2 h3 hc
        refine hx _ _ _ _ _ 32 _ 3 ?z571 ?z572 ?z568 ?z570 ?z569
        case z571 => kernel_rfl
        case z572 => (rw [hs]; decide)
        case z568 => exact frY rfl (c_Make rfl rfl (ev_tmp h31))
        case z570 => (rintro _ _ ⟨_, _, _, _, _, _, _, _, _, _, _, rfl, _, l⟩; exact lz.trans (l.mono lz.size))
        case z569 =>
        clear hx hc
        rintro _ u3 a ⟨B1, B2, B3, B4, d1, d2, d3, d4, sD, sW, sP, rfl, Fq, l⟩ F0
        replace hs := F0.z.trans hs
        replace hd := F0.e.trans hd
        replace h3 := (F0.n 3 (by decide)).trans h3
        replace h4 := (F0.n 4 (by decide)).trans h4
        replace h29 := (F0.n 29 (by decide)).trans h29
        replace h31 := (F0.n 31 (by decide)).trans h31
        replace h30 := (F0.n 30 (by decide)).trans h30
        replace h7 := (F0.n 7 (by decide)).trans h7
        have h32 := F0.s
        clear F0
        have tq0 := fun g hg => (Fq.oM.lt g hg).2
        have tq1 := fun g hg => (Fq.oD.lt g hg).2
        have tq2 := fun g hg => (Fq.oW.lt g hg).2
        have tq3 := fun g hg => (Fq.oP.lt g hg).2
        have hz2 := l.size
        replace lz := lz.trans (l.mono lz.size)
        replace Fp := Fp.below l
        replace Q7 := Q7.below l Q7.lt
        clear l
        refine heldL_one 5 (by kernel_rfl) ?z573
        case z573 =>
          refine cont_val 5 8 (v := .pointer (some ⟨u3.heap.size, 0, none⟩)) (w' := u3.alloc (.cells #[.int .i64 0, .int .i64 0, .int .i64 0, .int .i64 0, .slice none 0 0, .slice none 0 0, .slice none 0 0, .slice none 0 0] 36)) (by kernel_rfl) (frZ hs) ?z574 (lz.trans (((Below.refl _ _).alloc (Nat.le_refl _) _).mono lz.size)) ?z575
          case z574 => exact frY rfl (k_allocR rfl)
          case z575 =>
          refine frN7 hs hd h3 h4 h29 h31 h30 h7 h32 ?_; clear hs hd h3 h4 h29 h31 h30 h7 h32; intro a hs hd h3 h4 h29 h31 h30 h7 h32 h8
          obtain ⟨u4, hwn⟩ : ∃ wn, wn = u3.alloc (.cells #[.int .i64 0, .int .i64 0, .int .i64 0, .int .i64 0, .slice none 0 0, .slice none 0 0, .slice none 0 0, .slice none 0 0] 36) := ⟨_, rfl⟩
          rw [← hwn]
          have qn : Blk u4 u3.heap.size 36 #[.int .i64 0, .int .i64 0, .int .i64 0, .int .i64 0, .slice none 0 0, .slice none 0 0, .slice none 0 0, .slice none 0 0] := by rw [hwn]; exact Blk.alloc _ _ _
          have ln : Below u3.heap.size u3 u4 := by rw [hwn]; exact (Below.refl _ _).alloc (Nat.le_refl _) _
          clear hwn
          have l := ln
          clear ln
          have hz3 := qn.lt
          have Q8 := qn
          clear qn
          replace lz := lz.trans (l.mono lz.size)
          replace Fp := Fp.below l
          replace Fq := Fq.below l
          replace Q7 := Q7.below l Q7.lt
          clear l
          have z0 := lz0.size
          have e6 := exc_setRow u4 (u1.heap.size) #[.int .i64 (F.tmod 4), .int .i64 (Mk.iv I), .int .i64 (Mk.cnt E C), .int .i64 (Mk.unt E U), .slice A1 (Mk.mon lm).length c1, .slice A2 (Mk.D F ld).length c2, .slice A3 ((Mk.W F lw).map (·.1)).length c3, .slice A4 (Mk.P F lm ld lw lp).length c4]
          have c13 := Q7.setRow (cs := #[.int .i64 (F.tmod 4), .int .i64 (Mk.iv I), .int .i64 (Mk.cnt E C), .int .i64 (Mk.unt E U), .slice A1 (Mk.mon lm).length c1, .slice A2 (Mk.D F ld).length c2, .slice A3 ((Mk.W F lw).map (·.1)).length c3, .slice A4 (Mk.P F lm ld lw lp).length c4])
          have c14 := Q8.exc (e6 u4.heap.size) Q8.lt (by omega)
          have Gp := Fp.exc (e6 u4.heap.size) (by omega) tp0 tp1 tp2 tp3
          have Gq := Fq.exc (e6 u4.heap.size) (by omega) tq0 tq1 tq2 tq3
          refine heldL_store 6 (w' := u4.setRow (u1.heap.size) #[.int .i64 (F.tmod 4), .int .i64 (Mk.iv I), .int .i64 (Mk.cnt E C), .int .i64 (Mk.unt E U), .slice A1 (Mk.mon lm).length c1, .slice A2 (Mk.D F ld).length c2, .slice A3 ((Mk.W F lw).map (·.1)).length c3, .slice A4 (Mk.P F lm ld lw lp).length c4]) (by kernel_rfl) (by kernel_rfl) ?z579 (lz.trans ((e6 w.heap.size).below (by omega))) ?z580
          case z579 => exact frY rfl (k_storeR rfl (ev_tmp h7) (ev_tmp h30) Q7 rfl rfl (by simp [Value.oneCell']))
          case z580 =>
          have e7 := exc_setRow (u4.setRow (u1.heap.size) #[.int .i64 (F.tmod 4), .int .i64 (Mk.iv I), .int .i64 (Mk.cnt E C), .int .i64 (Mk.unt E U), .slice A1 (Mk.mon lm).length c1, .slice A2 (Mk.D F ld).length c2, .slice A3 ((Mk.W F lw).map (·.1)).length c3, .slice A4 (Mk.P F lm ld lw lp).length c4]) (u3.heap.size) #[.int .i64 (F'.tmod 4), .int .i64 (Mk.iv I'), .int .i64 (Mk.cnt E' C'), .int .i64 (Mk.unt E' U'), .slice B1 (Mk.mon lm').length d1, .slice B2 (Mk.D F' ld').length d2, .slice B3 ((Mk.W F' lw').map (·.1)).length d3, .slice B4 (Mk.P F' lm' ld' lw' lp').length d4]
          have g14 := c14.setRow (cs := #[.int .i64 (F'.tmod 4), .int .i64 (Mk.iv I'), .int .i64 (Mk.cnt E' C'), .int .i64 (Mk.unt E' U'), .slice B1 (Mk.mon lm').length d1, .slice B2 (Mk.D F' ld').length d2, .slice B3 ((Mk.W F' lw').map (·.1)).length d3, .slice B4 (Mk.P F' lm' ld' lw' lp').length d4])
          have g13 := c13.exc (e7 _) c13.lt (by omega)
          have Hp := (Gp.exc (e7 _) (by omega) tp0 tp1 tp2 tp3).plain
          have Hq := (Gq.exc (e7 _) (by omega) tq0 tq1 tq2 tq3).plain
          have lzz := (lz.trans ((e6 w.heap.size).below (by omega))).trans ((e7 w.heap.size).below (by omega))
          refine heldL_store 7 (w' := (u4.setRow (u1.heap.size) #[.int .i64 (F.tmod 4), .int .i64 (Mk.iv I), .int .i64 (Mk.cnt E C), .int .i64 (Mk.unt E U), .slice A1 (Mk.mon lm).length c1, .slice A2 (Mk.D F ld).length c2, .slice A3 ((Mk.W F lw).map (·.1)).length c3, .slice A4 (Mk.P F lm ld lw lp).length c4]).setRow (u3.heap.size) #[.int .i64 (F'.tmod 4), .int .i64 (Mk.iv I'), .int .i64 (Mk.cnt E' C'), .int .i64 (Mk.unt E' U'), .slice B1 (Mk.mon lm').length d1, .slice B2 (Mk.D F' ld').length d2, .slice B3 ((Mk.W F' lw').map (·.1)).length d3, .slice B4 (Mk.P F' lm' ld' lw' lp').length d4]) (by kernel_rfl) (by kernel_rfl) ?z581 lzz ?z582
          case z581 => exact frY rfl (k_storeR rfl (ev_tmp h8) (ev_tmp h32) c14 rfl rfl (by simp [Value.oneCell']))
          case z582 =>
          refine wpAnyH_done (by kernel_rfl) ?_ _
          exact hR a _ _ _ A1 A2 A3 A4 B1 B2 B3 B4 c1 c2 c3 c4 d1 d2 d3 d4 hs hd h7 h8 g13 g14 Hp Hq lzz
      case z567 =>
        refine cont_val 5 8 (v := .pointer (some ⟨u2.heap.size, 0, none⟩)) (w' := u2.alloc (.cells #[.int .i64 0, .int .i64 0, .int .i64 0, .int .i64 0, .slice none 0 0, .slice none 0 0, .slice none 0 0, .slice none 0 0] 36)) (by kernel_rfl) (frZ hs) ?z583 (lz.trans (((Below.refl _ _).alloc (Nat.le_refl _) _).mono lz.size)) ?z584
        case z583 => exact frY rfl (k_allocR rfl)
        case z584 =>
        refine frN6 hs hd h3 h4 h29 h31 h30 h7 ?_; clear hs hd h3 h4 h29 h31 h30 h7; intro a hs hd h3 h4 h29 h31 h30 h7 h8
        obtain ⟨u3, hwn⟩ : ∃ wn, wn = u2.alloc (.cells #[.int .i64 0, .int .i64 0, .int .i64 0, .int .i64 0, .slice none 0 0, .slice none 0 0, .slice none 0 0, .slice none 0 0] 36) := ⟨_, rfl⟩
        rw [← hwn]
        have qn : Blk u3 u2.heap.size 36 #[.int .i64 0, .int .i64 0, .int .i64 0, .int .i64 0, .slice none 0 0, .slice none 0 0, .slice none 0 0, .slice none 0 0] := by rw [hwn]; exact Blk.alloc _ _ _
        have ln : Below u2.heap.size u2 u3 := by rw [hwn]; exact (Below.refl _ _).alloc (Nat.le_refl _) _
        clear hwn
        have l := ln
        clear ln
        have hz2 := qn.lt
        have Q8 := qn
        clear qn
        replace lz := lz.trans (l.mono lz.size)
        replace Fp := Fp.below l
        replace Q7 := Q7.below l Q7.lt
        clear l
        refine heldL_one 3 (by kernel_rfl) ?z588
        case z588 =>
          have hc := make_any' F' I' E' C' U' AM' AD' AW' AP' cM' cD' cW' cP' lm' ld' lw' lp' u3 (hY.below lz)
          have hx := fun ops Q S fuel listed d a i h1 h2 h3 => cont_call (P := Tryz.prog) (ops := ops) (Q := Q) (S := S) (fuel := fuel) (listed := listed) (a := a) (w := u3) i d h1 h2 h3 hc
          refine hx _ _ _ _ _ 32 _ 3 ?z592 ?z593 ?z589 ?z591 ?z590
          case z592 => kernel_rfl
          case z593 => (rw [hs]; decide)
          case z589 => exact frY rfl (c_Make rfl rfl (ev_tmp h31))
          case z591 => (rintro _ _ ⟨_, _, _, _, _, _, _, _, _, _, _, rfl, _, l⟩; exact lz.trans (l.mono lz.size))
          case z590 =>
          clear hx hc
          rintro _ u4 a ⟨B1, B2, B3, B4, d1, d2, d3, d4, sD, sW, sP, rfl, Fq, l⟩ F0
          replace hs := F0.z.trans hs
          replace hd := F0.e.trans hd
          replace h3 := (F0.n 3 (by decide)).trans h3
          replace h4 := (F0.n 4 (by decide)).trans h4
          replace h29 := (F0.n 29 (by decide)).trans h29
          replace h31 := (F0.n 31 (by decide)).trans h31
          replace h30 := (F0.n 30 (by decide)).trans h30
          replace h7 := (F0.n 7 (by decide)).trans h7
          replace h8 := (F0.n 8 (by decide)).trans h8
          have h32 := F0.s
          clear F0
          have tq0 := fun g hg => (Fq.oM.lt g hg).2
          have tq1 := fun g hg => (Fq.oD.lt g hg).2
          have tq2 := fun g hg => (Fq.oW.lt g hg).2
          have tq3 := fun g hg => (Fq.oP.lt g hg).2
          have hz3 := l.size
          replace lz := lz.trans (l.mono lz.size)
          replace Fp := Fp.below l
          replace Q7 := Q7.below l Q7.lt
          replace Q8 := Q8.below l Q8.lt
          clear l
          have z0 := lz0.size
          have e6 := exc_setRow u4 (u1.heap.size) #[.int .i64 (F.tmod 4), .int .i64 (Mk.iv I), .int .i64 (Mk.cnt E C), .int .i64 (Mk.unt E U), .slice A1 (Mk.mon lm).length c1, .slice A2 (Mk.D F ld).length c2, .slice A3 ((Mk.W F lw).map (·.1)).length c3, .slice A4 (Mk.P F lm ld lw lp).length c4]
          have c13 := Q7.setRow (cs := #[.int .i64 (F.tmod 4), .int .i64 (Mk.iv I), .int .i64 (Mk.cnt E C), .int .i64 (Mk.unt E U), .slice A1 (Mk.mon lm).length c1, .slice A2 (Mk.D F ld).length c2, .slice A3 ((Mk.W F lw).map (·.1)).length c3, .slice A4 (Mk.P F lm ld lw lp).length c4])
          have c14 := Q8.exc (e6 u4.heap.size) Q8.lt (by omega)
          have Gp := Fp.exc (e6 u4.heap.size) (by omega) tp0 tp1 tp2 tp3
          have Gq := Fq.exc (e6 u4.heap.size) (by omega) tq0 tq1 tq2 tq3
          refine heldL_store 6 (w' := u4.setRow (u1.heap.size) #[.int .i64 (F.tmod 4), .int .i64 (Mk.iv I), .int .i64 (Mk.cnt E C), .int .i64 (Mk.unt E U), .slice A1 (Mk.mon lm).length c1, .slice A2 (Mk.D F ld).length c2, .slice A3 ((Mk.W F lw).map (·.1)).length c3, .slice A4 (Mk.P F lm ld lw lp).length c4]) (by kernel_rfl) (by kernel_rfl) ?z594 (lz.trans ((e6 w.heap.size).below (by omega))) ?z595
          case z594 => exact frY rfl (k_storeR rfl (ev_tmp h7) (ev_tmp h30) Q7 rfl rfl (by simp [Value.oneCell']))
          case z595 =>
          have e7 := exc_setRow (u4.setRow (u1.heap.size) #[.int .i64 (F.tmod 4), .int .i64 (Mk.iv I), .int .i64 (Mk.cnt E C), .int .i64 (Mk.unt E U), .slice A1 (Mk.mon lm).length c1, .slice A2 (Mk.D F ld).length c2, .slice A3 ((Mk.W F lw).map (·.1)).length c3, .slice A4 (Mk.P F lm ld lw lp).length c4]) (u2.heap.size) #[.int .i64 (F'.tmod 4), .int .i64 (Mk.iv I'), .int .i64 (Mk.cnt E' C'), .int .i64 (Mk.unt E' U'), .slice B1 (Mk.mon lm').length d1, .slice B2 (Mk.D F' ld').length d2, .slice B3 ((Mk.W F' lw').map (·.1)).length d3, .slice B4 (Mk.P F' lm' ld' lw' lp').length d4]
          have g14 := c14.setRow (cs := #[.int .i64 (F'.tmod 4), .int .i64 (Mk.iv I'), .int .i64 (Mk.cnt E' C'), .int .i64 (Mk.unt E' U'), .slice B1 (Mk.mon lm').length d1, .slice B2 (Mk.D F' ld').length d2, .slice B3 ((Mk.W F' lw').map (·.1)).length d3, .slice B4 (Mk.P F' lm' ld' lw' lp').length d4])
          have g13 := c13.exc (e7 _) c13.lt (by omega)
          have Hp := (Gp.exc (e7 _) (by omega) tp0 tp1 tp2 tp3).plain
          have Hq := (Gq.exc (e7 _) (by omega) tq0 tq1 tq2 tq3).plain
          have lzz := (lz.trans ((e6 w.heap.size).below (by omega))).trans ((e7 w.heap.size).below (by omega))
          refine heldL_store 7 (w' := (u4.setRow (u1.heap.size) #[.int .i64 (F.tmod 4), .int .i64 (Mk.iv I), .int .i64 (Mk.cnt E C), .int .i64 (Mk.unt E U), .slice A1 (Mk.mon lm).length c1, .slice A2 (Mk.D F ld).length c2, .slice A3 ((Mk.W F lw).map (·.1)).length c3, .slice A4 (Mk.P F lm ld lw lp).length c4]).setRow (u2.heap.size) #[.int .i64 (F'.tmod 4), .int .i64 (Mk.iv I'), .int .i64 (Mk.cnt E' C'), .int .i64 (Mk.unt E' U'), .slice B1 (Mk.mon lm').length d1, .slice B2 (Mk.D F' ld').length d2, .slice B3 ((Mk.W F' lw').map (·.1)).length d3, .slice B4 (Mk.P F' lm' ld' lw' lp').length d4]) (by kernel_rfl) (by kernel_rfl) ?z596 lzz ?z597
          case z596 => exact frY rfl (k_storeR rfl (ev_tmp h8) (ev_tmp h32) c14 rfl rfl (by simp [Value.oneCell']))
          case z597 =>
          refine wpAnyH_done (by kernel_rfl) ?_ _
          exact hR a _ _ _ A1 A2 A3 A4 B1 B2 B3 B4 c1 c2 c3 c4 d1 d2 d3 d4 hs hd h7 h8 g13 g14 Hp Hq lzz
    case z523 =>
      refine cont_val 5 8 (v := .pointer (some ⟨u1.heap.size, 0, none⟩)) (w' := u1.alloc (.cells #[.int .i64 0, .int .i64 0, .int .i64 0, .int .i64 0, .slice none 0 0, .slice none 0 0, .slice none 0 0, .slice none 0 0] 36)) (by kernel_rfl) (frZ hs) ?z598 (lz.trans (((Below.refl _ _).alloc (Nat.le_refl _) _).mono lz.size)) ?z599
      case z598 => exact frY rfl (k_allocR rfl)
      case z599 =>
      refine frN5 hs hd h3 h4 h29 h31 h30 ?_; clear hs hd h3 h4 h29 h31 h30; intro a hs hd h3 h4 h29 h31 h30 h8
      obtain ⟨u2, hwn⟩ : ∃ wn, wn = u1.alloc (.cells #[.int .i64 0, .int .i64 0, .int .i64 0, .int .i64 0, .slice none 0 0, .slice none 0 0, .slice none 0 0, .slice none 0 0] 36) := ⟨_, rfl⟩
      rw [← hwn]
      have qn : Blk u2 u1.heap.size 36 #[.int .i64 0, .int .i64 0, .int .i64 0, .int .i64 0, .slice none 0 0, .slice none 0 0, .slice none 0 0, .slice none 0 0] := by rw [hwn]; exact Blk.alloc _ _ _
      have ln : Below u1.heap.size u1 u2 := by rw [hwn]; exact (Below.refl _ _).alloc (Nat.le_refl _) _
      clear hwn
      have l := ln
      clear ln
      have hz1 := qn.lt
      have Q8 := qn
      clear qn
      replace lz := lz.trans (l.mono lz.size)
      replace Fp := Fp.below l
      clear l
      refine heldL_two 3 4 (by kernel_rfl) ?z603 ?z604
      case z603 =>
        have hc := make_any' F' I' E' C' U' AM' AD' AW' AP' cM' cD' cW' cP' lm' ld' lw' lp' u2 (hY.below lz)
        have hx := fun ops Q S fuel listed d a i h1 h2 h3 => cont_call (P := Tryz.prog) (ops := ops) (Q := Q) (S := S) (fuel := fuel) (listed := listed) (a := a) (w := u2) i d h1 h2 h3 hc
        refine hx _ _ _ _ _ 32 _ 3 ?z608 ?z609 ?z605 ?z607 ?z606
        case z608 => kernel_rfl
        case z609 => (rw [hs]; decide)
        case z605 => exact frY rfl (c_Make rfl rfl (ev_tmp h31))
        case z607 => (rintro _ _ ⟨_, _, _, _, _, _, _, _, _, _, _, rfl, _, l⟩; exact lz.trans (l.mono lz.size))
        case z606 =>
        clear hx hc
        rintro _ u3 a ⟨B1, B2, B3, B4, d1, d2, d3, d4, sD, sW, sP, rfl, Fq, l⟩ F0
        replace hs := F0.z.trans hs
        replace hd := F0.e.trans hd
        replace h3 := (F0.n 3 (by decide)).trans h3
        replace h4 := (F0.n 4 (by decide)).trans h4
        replace h29 := (F0.n 29 (by decide)).trans h29
        replace h31 := (F0.n 31 (by decide)).trans h31
        replace h30 := (F0.n 30 (by decide)).trans h30
        replace h8 := (F0.n 8 (by decide)).trans h8
        have h32 := F0.s
        clear F0
        have tq0 := fun g hg => (Fq.oM.lt g hg).2
        have tq1 := fun g hg => (Fq.oD.lt g hg).2
        have tq2 := fun g hg => (Fq.oW.lt g hg).2
        have tq3 := fun g hg => (Fq.oP.lt g hg).2
        have hz2 := l.size
        replace lz := lz.trans (l.mono lz.size)
        replace Fp := Fp.below l
        replace Q8 := Q8.below l Q8.lt
        clear l
        refine heldL_one 4 (by kernel_rfl) ?z610
        case z610 =>
          refine cont_val 4 7 (v := .pointer (some ⟨u3.heap.size, 0, none⟩)) (w' := u3.alloc (.cells #[.int .i64 0, .int .i64 0, .int .i64 0, .int .i64 0, .slice none 0 0, .slice none 0 0, .slice none 0 0, .slice none 0 0] 36)) (by kernel_rfl) (frZ hs) ?z611 (lz.trans (((Below.refl _ _).alloc (Nat.le_refl _) _).mono lz.size)) ?z612
          case z611 => exact frY rfl (k_allocR rfl)
          case z612 =>
          refine frN7 hs hd h3 h4 h29 h31 h30 h8 h32 ?_; clear hs hd h3 h4 h29 h31 h30 h8 h32; intro a hs hd h3 h4 h29 h31 h30 h8 h32 h7
          obtain ⟨u4, hwn⟩ : ∃ wn, wn = u3.alloc (.cells #[.int .i64 0, .int .i64 0, .int .i64 0, .int .i64 0, .slice none 0 0, .slice none 0 0, .slice none 0 0, .slice none 0 0] 36) := ⟨_, rfl⟩
          rw [← hwn]
          have qn : Blk u4 u3.heap.size 36 #[.int .i64 0, .int .i64 0, .int .i64 0, .int .i64 0, .slice none 0 0, .slice none 0 0, .slice none 0 0, .slice none 0 0] := by rw [hwn]; exact Blk.alloc _ _ _
          have ln : Below u3.heap.size u3 u4 := by rw [hwn]; exact (Below.refl _ _).alloc (Nat.le_refl _) _
          clear hwn
          have l := ln
          clear ln
          have hz3 := qn.lt
          have Q7 := qn
          clear qn
          replace lz := lz.trans (l.mono lz.size)
          replace Fp := Fp.below l
          replace Fq := Fq.below l
          replace Q8 := Q8.below l Q8.lt
          clear l
          have z0 := lz0.size
          have e6 := exc_setRow u4 (u3.heap.size) #[.int .i64 (F.tmod 4), .int .i64 (Mk.iv I), .int .i64 (Mk.cnt E C), .int .i64 (Mk.unt E U), .slice A1 (Mk.mon lm).length c1, .slice A2 (Mk.D F ld).length c2, .slice A3 ((Mk.W F lw).map (·.1)).length c3, .slice A4 (Mk.P F lm ld lw lp).length c4]
          have c13 := Q7.setRow (cs := #[.int .i64 (F.tmod 4), .int .i64 (Mk.iv I), .int .i64 (Mk.cnt E C), .int .i64 (Mk.unt E U), .slice A1 (Mk.mon lm).length c1, .slice A2 (Mk.D F ld).length c2, .slice A3 ((Mk.W F lw).map (·.1)).length c3, .slice A4 (Mk.P F lm ld lw lp).length c4])
          have c14 := Q8.exc (e6 u4.heap.size) Q8.lt (by omega)
          have Gp := Fp.exc (e6 u4.heap.size) (by omega) tp0 tp1 tp2 tp3
          have Gq := Fq.exc (e6 u4.heap.size) (by omega) tq0 tq1 tq2 tq3
          refine heldL_store 6 (w' := u4.setRow (u3.heap.size) #[.int .i64 (F.tmod 4), .int .i64 (Mk.iv I), .int .i64 (Mk.cnt E C), .int .i64 (Mk.unt E U), .slice A1 (Mk.mon lm).length c1, .slice A2 (Mk.D F ld).length c2, .slice A3 ((Mk.W F lw).map (·.1)).length c3, .slice A4 (Mk.P F lm ld lw lp).length c4]) (by kernel_rfl) (by kernel_rfl) ?z616 (lz.trans ((e6 w.heap.size).below (by omega))) ?z617
          case z616 => exact frY rfl (k_storeR rfl (ev_tmp h7) (ev_tmp h30) Q7 rfl rfl (by simp [Value.oneCell']))
          case z617 =>
          have e7 := exc_setRow (u4.setRow (u3.heap.size) #[.int .i64 (F.tmod 4), .int .i64 (Mk.iv I), .int .i64 (Mk.cnt E C), .int .i64 (Mk.unt E U), .slice A1 (Mk.mon lm).length c1, .slice A2 (Mk.D F ld).length c2, .slice A3 ((Mk.W F lw).map (·.1)).length c3, .slice A4 (Mk.P F lm ld lw lp).length c4]) (u1.heap.size) #[.int .i64 (F'.tmod 4), .int .i64 (Mk.iv I'), .int .i64 (Mk.cnt E' C'), .int .i64 (Mk.unt E' U'), .slice B1 (Mk.mon lm').length d1, .slice B2 (Mk.D F' ld').length d2, .slice B3 ((Mk.W F' lw').map (·.1)).length d3, .slice B4 (Mk.P F' lm' ld' lw' lp').length d4]
          have g14 := c14.setRow (cs := #[.int .i64 (F'.tmod 4), .int .i64 (Mk.iv I'), .int .i64 (Mk.cnt E' C'), .int .i64 (Mk.unt E' U'), .slice B1 (Mk.mon lm').length d1, .slice B2 (Mk.D F' ld').length d2, .slice B3 ((Mk.W F' lw').map (·.1)).length d3, .slice B4 (Mk.P F' lm' ld' lw' lp').length d4])
          have g13 := c13.exc (e7 _) c13.lt (by omega)
          have Hp := (Gp.exc (e7 _) (by omega) tp0 tp1 tp2 tp3).plain
          have Hq := (Gq.exc (e7 _) (by omega) tq0 tq1 tq2 tq3).plain
          have lzz := (lz.trans ((e6 w.heap.size).below (by omega))).trans ((e7 w.heap.size).below (by omega))
          refine heldL_store 7 (w' := (u4.setRow (u3.heap.size) #[.int .i64 (F.tmod 4), .int .i64 (Mk.iv I), .int .i64 (Mk.cnt E C), .int .i64 (Mk.unt E U), .slice A1 (Mk.mon lm).length c1, .slice A2 (Mk.D F ld).length c2, .slice A3 ((Mk.W F lw).map (·.1)).length c3, .slice A4 (Mk.P F lm ld lw lp).length c4]).setRow (u1.heap.size) #[.int .i64 (F'.tmod 4), .int .i64 (Mk.iv I'), .int .i64 (Mk.cnt E' C'), .int .i64 (Mk.unt E' U'), .slice B1 (Mk.mon lm').length d1, .slice B2 (Mk.D F' ld').length d2, .slice B3 ((Mk.W F' lw').map (·.1)).length d3, .slice B4 (Mk.P F' lm' ld' lw' lp').length d4]) (by kernel_rfl) (by kernel_rfl) ?z618 lzz ?z619
          case z618 => exact frY rfl (k_storeR rfl (ev_tmp h8) (ev_tmp h32) c14 rfl rfl (by simp [Value.oneCell']))
          case z619 =>
          refine wpAnyH_done (by kernel_rfl) ?_ _
          exact hR a _ _ _ A1 A2 A3 A4 B1 B2 B3 B4 c1 c2 c3 c4 d1 d2 d3 d4 hs hd h7 h8 g13 g14 Hp Hq lzz
      case z604 =>
        refine cont_val 4 7 (v := .pointer (some ⟨u2.heap.size, 0, none⟩)) (w' := u2.alloc (.cells #[.int .i64 0, .int .i64 0, .int .i64 0, .int .i64 0, .slice none 0 0, .slice none 0 0, .slice none 0 0, .slice none 0 0] 36)) (by kernel_rfl) (frZ hs) ?z620 (lz.trans (((Below.refl _ _).alloc (Nat.le_refl _) _).mono lz.size)) ?z621
        case z620 => exact frY rfl (k_allocR rfl)
        case z621 =>
        refine frN6 hs hd h3 h4 h29 h31 h30 h8 ?_; clear hs hd h3 h4 h29 h31 h30 h8; intro a hs hd h3 h4 h29 h31 h30 h8 h7
        obtain ⟨u3, hwn⟩ : ∃ wn, wn = u2.alloc (.cells #[.int .i64 0, .int .i64 0, .int .i64 0, .int .i64 0, .slice none 0 0, .slice none 0 0, .slice none 0 0, .slice none 0 0] 36) := ⟨_, rfl⟩
        rw [← hwn]
        have qn : Blk u3 u2.heap.size 36 #[.int .i64 0, .int .i64 0, .int .i64 0, .int .i64 0, .slice none 0 0, .slice none 0 0, .slice none 0 0, .slice none 0 0] := by rw [hwn]; exact Blk.alloc _ _ _
        have ln : Below u2.heap.size u2 u3 := by rw [hwn]; exact (Below.refl _ _).alloc (Nat.le_refl _) _
        clear hwn
        have l := ln
        clear ln
        have hz2 := qn.lt
        have Q7 := qn
        clear qn
        replace lz := lz.trans (l.mono lz.size)
        replace Fp := Fp.below l
        replace Q8 := Q8.below l Q8.lt
        clear l
        refine heldL_one 3 (by kernel_rfl) ?z625
        case z625 =>
          have hc := make_any' F' I' E' C' U' AM' AD' AW' AP' cM' cD' cW' cP' lm' ld' lw' lp' u3 (hY.below lz)
          have hx := fun ops Q S fuel listed d a i h1 h2 h3 => cont_call (P := Tryz.prog) (ops := ops) (Q := Q) (S := S) (fuel := fuel) (listed := listed) (a := a) (w := u3) i d h1 h2 h3 hc
          refine hx _ _ _ _ _ 32 _ 3 ?z629 ?z630 ?z626 ?z628 ?z627
          case z629 => kernel_rfl
          case z630 => (rw [hs]; decide)
          case z626 => exact frY rfl (c_Make rfl rfl (ev_tmp h31))
          case z628 => (rintro _ _ ⟨_, _, _, _, _, _, _, _, _, _, _, rfl, _, l⟩; exact lz.trans (l.mono lz.size))
          case z627 =>
          clear hx hc
          rintro _ u4 a ⟨B1, B2, B3, B4, d1, d2, d3, d4, sD, sW, sP, rfl, Fq, l⟩ F0
          replace hs := F0.z.trans hs
          replace hd := F0.e.trans hd
          replace h3 := (F0.n 3 (by decide)).trans h3
          replace h4 := (F0.n 4 (by decide)).trans h4
          replace h29 := (F0.n 29 (by decide)).trans h29
          replace h31 := (F0.n 31 (by decide)).trans h31
          replace h30 := (F0.n 30 (by decide)).trans h30
          replace h8 := (F0.n 8 (by decide)).trans h8
          replace h7 := (F0.n 7 (by decide)).trans h7
          have h32 := F0.s
          clear F0
          have tq0 := fun g hg => (Fq.oM.lt g hg).2
          have tq1 := fun g hg => (Fq.oD.lt g hg).2
          have tq2 := fun g hg => (Fq.oW.lt g hg).2
          have tq3 := fun g hg => (Fq.oP.lt g hg).2
          have hz3 := l.size
          replace lz := lz.trans (l.mono lz.size)
          replace Fp := Fp.below l
          replace Q7 := Q7.below l Q7.lt
          replace Q8 := Q8.below l Q8.lt
          clear l
          have z0 := lz0.size
          have e6 := exc_setRow u4 (u2.heap.size) #[.int .i64 (F.tmod 4), .int .i64 (Mk.iv I), .int .i64 (Mk.cnt E C), .int .i64 (Mk.unt E U), .slice A1 (Mk.mon lm).length c1, .slice A2 (Mk.D F ld).length c2, .slice A3 ((Mk.W F lw).map (·.1)).length c3, .slice A4 (Mk.P F lm ld lw lp).length c4]
          have c13 := Q7.setRow (cs := #[.int .i64 (F.tmod 4), .int .i64 (Mk.iv I), .int .i64 (Mk.cnt E C), .int .i64 (Mk.unt E U), .slice A1 (Mk.mon lm).length c1, .slice A2 (Mk.D F ld).length c2, .slice A3 ((Mk.W F lw).map (·.1)).length c3, .slice A4 (Mk.P F lm ld lw lp).length c4])
          have c14 := Q8.exc (e6 u4.heap.size) Q8.lt (by omega)
          have Gp := Fp.exc (e6 u4.heap.size) (by omega) tp0 tp1 tp2 tp3
          have Gq := Fq.exc (e6 u4.heap.size) (by omega) tq0 tq1 tq2 tq3
          refine heldL_store 6 (w' := u4.setRow (u2.heap.size) #[.int .i64 (F.tmod 4), .int .i64 (Mk.iv I), .int .i64 (Mk.cnt E C), .int .i64 (Mk.unt E U), .slice A1 (Mk.mon lm).length c1, .slice A2 (Mk.D F ld).length c2, .slice A3 ((Mk.W F lw).map (·.1)).length c3, .slice A4 (Mk.P F lm ld lw lp).length c4]) (by kernel_rfl) (by kernel_rfl) ?z631 (lz.trans ((e6 w.heap.size).below (by omega))) ?z632
          case z631 => exact frY rfl (k_storeR rfl (ev_tmp h7) (ev_tmp h30) Q7 rfl rfl (by simp [Value.oneCell']))
          case z632 =>
          have e7 := exc_setRow (u4.setRow (u2.heap.size) #[.int .i64 (F.tmod 4), .int .i64 (Mk.iv I), .int .i64 (Mk.cnt E C), .int .i64 (Mk.unt E U), .slice A1 (Mk.mon lm).length c1, .slice A2 (Mk.D F ld).length c2, .slice A3 ((Mk.W F lw).map (·.1)).length c3, .slice A4 (Mk.P F lm ld lw lp).length c4]) (u1.heap.size) #[.int .i64 (F'.tmod 4), .int .i64 (Mk.iv I'), .int .i64 (Mk.cnt E' C'), .int .i64 (Mk.unt E' U'), .slice B1 (Mk.mon lm').length d1, .slice B2 (Mk.D F' ld').length d2, .slice B3 ((Mk.W F' lw').map (·.1)).length d3, .slice B4 (Mk.P F' lm' ld' lw' lp').length d4]
          have g14 := c14.setRow (cs := #[.int .i64 (F'.tmod 4), .int .i64 (Mk.iv I'), .int .i64 (Mk.cnt E' C'), .int .i64 (Mk.unt E' U'), .slice B1 (Mk.mon lm').length d1, .slice B2 (Mk.D F' ld').length d2, .slice B3 ((Mk.W F' lw').map (·.1)).length d3, .slice B4 (Mk.P F' lm' ld' lw' lp').length d4])
          have g13 := c13.exc (e7 _) c13.lt (by omega)
          have Hp := (Gp.exc (e7 _) (by omega) tp0 tp1 tp2 tp3).plain
          have Hq := (Gq.exc (e7 _) (by omega) tq0 tq1 tq2 tq3).plain
          have lzz := (lz.trans ((e6 w.heap.size).below (by omega))).trans ((e7 w.heap.size).below (by omega))
          refine heldL_store 7 (w' := (u4.setRow (u2.heap.size) #[.int .i64 (F.tmod 4), .int .i64 (Mk.iv I), .int .i64 (Mk.cnt E C), .int .i64 (Mk.unt E U), .slice A1 (Mk.mon lm).length c1, .slice A2 (Mk.D F ld).length c2, .slice A3 ((Mk.W F lw).map (·.1)).length c3, .slice A4 (Mk.P F lm ld lw lp).length c4]).setRow (u1.heap.size) #[.int .i64 (F'.tmod 4), .int .i64 (Mk.iv I'), .int .i64 (Mk.cnt E' C'), .int .i64 (Mk.unt E' U'), .slice B1 (Mk.mon lm').length d1, .slice B2 (Mk.D F' ld').length d2, .slice B3 ((Mk.W F' lw').map (·.1)).length d3, .slice B4 (Mk.P F' lm' ld' lw' lp').length d4]) (by kernel_rfl) (by kernel_rfl) ?z633 lzz ?z634
          case z633 => exact frY rfl (k_storeR rfl (ev_tmp h8) (ev_tmp h32) c14 rfl rfl (by simp [Value.oneCell']))
          case z634 =>
          refine wpAnyH_done (by kernel_rfl) ?_ _
          exact hR a _ _ _ A1 A2 A3 A4 B1 B2 B3 B4 c1 c2 c3 c4 d1 d2 d3 d4 hs hd h7 h8 g13 g14 Hp Hq lzz
  case z514 =>
    refine cont_val 4 7 (v := .pointer (some ⟨u0.heap.size, 0, none⟩)) (w' := u0.alloc (.cells #[.int .i64 0, .int .i64 0, .int .i64 0, .int .i64 0, .slice none 0 0, .slice none 0 0, .slice none 0 0, .slice none 0 0] 36)) (by kernel_rfl) (frZ hs) ?z635 (lz.trans (((Below.refl _ _).alloc (Nat.le_refl _) _).mono lz.size)) ?z636
    case z635 => exact frY rfl (k_allocR rfl)
    case z636 =>
    refine frN4 hs hd h3 h4 h29 h31 ?_; clear hs hd h3 h4 h29 h31; intro a hs hd h3 h4 h29 h31 h7
    obtain ⟨u1, hwn⟩ : ∃ wn, wn = u0.alloc (.cells #[.int .i64 0, .int .i64 0, .int .i64 0, .int .i64 0, .slice none 0 0, .slice none 0 0, .slice none 0 0, .slice none 0 0] 36) := ⟨_, rfl⟩
    rw [← hwn]
    have qn : Blk u1 u0.heap.size 36 #[.int .i64 0, .int .i64 0, .int .i64 0, .int .i64 0, .slice none 0 0, .slice none 0 0, .slice none 0 0, .slice none 0 0] := by rw [hwn]; exact Blk.alloc _ _ _
    have ln : Below u0.heap.size u0 u1 := by rw [hwn]; exact (Below.refl _ _).alloc (Nat.le_refl _) _
    clear hwn
    have l := ln
    clear ln
    have hz0 := qn.lt
    have Q7 := qn
    clear qn
    replace lz := lz.trans (l.mono lz.size)
    clear l
    refine heldL_two 1 5 (by kernel_rfl) ?z640 ?z641
    case z640 =>
      have hc := make_any' F I E C U AM AD AW AP cM cD cW cP lm ld lw lp u1 (hX.below lz)
      have hx := fun ops Q S fuel listed d a i h1 h2 h3 => cont_call (P := Tryz.prog) (ops := ops) (Q := Q) (S := S) (fuel := fuel) (listed := listed) (a := a) (w := u1) i d h1 h2 h3 hc
      refine hx _ _ _ _ _ 30 _ 1 ?z645 ?z646 ?z642 ?z644 ?z643
      case z645 => kernel_rfl
      case z646 => (rw [hs]; decide)
      case z642 => exact frY rfl (c_Make rfl rfl (ev_tmp h29))
      case z644 => (rintro _ _ ⟨_, _, _, _, _, _, _, _, _, _, _, rfl, _, l⟩; exact lz.trans (l.mono lz.size))
      case z643 =>
      clear hx hc
      rintro _ u2 a ⟨A1, A2, A3, A4, c1, c2, c3, c4, tD, tW, tP, rfl, Fp, l⟩ F0
      replace hs := F0.z.trans hs
      replace hd := F0.e.trans hd
      replace h3 := (F0.n 3 (by decide)).trans h3
      replace h4 := (F0.n 4 (by decide)).trans h4
      replace h29 := (F0.n 29 (by decide)).trans h29
      replace h31 := (F0.n 31 (by decide)).trans h31
      replace h7 := (F0.n 7 (by decide)).trans h7
      have h30 := F0.s
      clear F0
      have tp0 := fun g hg => (Fp.oM.lt g hg).2
      have tp1 := fun g hg => (Fp.oD.lt g hg).2
      have tp2 := fun g hg => (Fp.oW.lt g hg).2
      have tp3 := fun g hg => (Fp.oP.lt g hg).2
      have hz1 := l.size
      replace lz := lz.trans (l.mono lz.size)
      replace Q7 := Q7.below l Q7.lt
      clear l
      refine heldL_two 3 5 (by kernel_rfl) ?z647 ?z648
      case z647 =>
        have hc := make_any' F' I' E' C' U' AM' AD' AW' AP' cM' cD' cW' cP' lm' ld' lw' lp' u2 (hY.below lz)
        have hx := fun ops Q S fuel listed d a i h1 h2 h3 => cont_call (P := Tryz.prog) (ops := ops) (Q := Q) (S := S) (fuel := fuel) (listed := listed) (a := a) (w := u2) i d h1 h2 h3 hc
        refine hx _ _ _ _ _ 32 _ 3 ?z652 ?z653 ?z649 ?z651 ?z650
        case z652 => kernel_rfl
        case z653 => (rw [hs]; decide)
        case z649 => exact frY rfl (c_Make rfl rfl (ev_tmp h31))
        case z651 => (rintro _ _ ⟨_, _, _, _, _, _, _, _, _, _, _, rfl, _, l⟩; exact lz.trans (l.mono lz.size))
        case z650 =>
        clear hx hc
        rintro _ u3 a ⟨B1, B2, B3, B4, d1, d2, d3, d4, sD, sW, sP, rfl, Fq, l⟩ F0
        replace hs := F0.z.trans hs
        replace hd := F0.e.trans hd
        replace h3 := (F0.n 3 (by decide)).trans h3
        replace h4 := (F0.n 4 (by decide)).trans h4
        replace h29 := (F0.n 29 (by decide)).trans h29
        replace h31 := (F0.n 31 (by decide)).trans h31
        replace h7 := (F0.n 7 (by decide)).trans h7
        replace h30 := (F0.n 30 (by decide)).trans h30
        have h32 := F0.s
        clear F0
        have tq0 := fun g hg => (Fq.oM.lt g hg).2
        have tq1 := fun g hg => (Fq.oD.lt g hg).2
        have tq2 := fun g hg => (Fq.oW.lt g hg).2
        have tq3 := fun g hg => (Fq.oP.lt g hg).2
        have hz2 := l.size
        replace lz := lz.trans (l.mono lz.size)
        replace Fp := Fp.below l
        replace Q7 := Q7.below l Q7.lt
        clear l
        refine heldL_one 5 (by kernel_rfl) ?z654
        case z654 =>
          refine cont_val 5 8 (v := .pointer (some ⟨u3.heap.size, 0, none⟩)) (w' := u3.alloc (.cells #[.int .i64 0, .int .i64 0, .int .i64 0, .int .i64 0, .slice none 0 0, .slice none 0 0, .slice none 0 0, .slice none 0 0] 36)) (by kernel_rfl) (frZ hs) ?z655 (lz.trans (((Below.refl _ _).alloc (Nat.le_refl _) _).mono lz.size)) ?z656
          case z655 => exact frY rfl (k_allocR rfl)
          case z656 =>
          refine frN7 hs hd h3 h4 h29 h31 h7 h30 h32 ?_; clear hs hd h3 h4 h29 h31 h7 h30 h32; intro a hs hd h3 h4 h29 h31 h7 h30 h32 h8
          obtain ⟨u4, hwn⟩ : ∃ wn, wn = u3.alloc (.cells #[.int .i64 0, .int .i64 0, .int .i64 0, .int .i64 0, .slice none 0 0, .slice none 0 0, .slice none 0 0, .slice none 0 0] 36) := ⟨_, rfl⟩
          rw [← hwn]
          have qn : Blk u4 u3.heap.size 36 #[.int .i64 0, .int .i64 0, .int .i64 0, .int .i64 0, .slice none 0 0, .slice none 0 0, .slice none 0 0, .slice none 0 0] := by rw [hwn]; exact Blk.alloc _ _ _
          have ln : Below u3.heap.size u3 u4 := by rw [hwn]; exact (Below.refl _ _).alloc (Nat.le_refl _) _
          clear hwn
          have l := ln
          clear ln
          have hz3 := qn.lt
          have Q8 := qn
          clear qn
          replace lz := lz.trans (l.mono lz.size)
          replace Fp := Fp.below l
          replace Fq := Fq.below l
          replace Q7 := Q7.below l Q7.lt
          clear l
          have z0 := lz0.size
          have e6 := exc_setRow u4 (u0.heap.size) #[.int .i64 (F.tmod 4), .int .i64 (Mk.iv I), .int .i64 (Mk.cnt E C), .int .i64 (Mk.unt E U), .slice A1 (Mk.mon lm).length c1, .slice A2 (Mk.D F ld).length c2, .slice A3 ((Mk.W F lw).map (·.1)).length c3, .slice A4 (Mk.P F lm ld lw lp).length c4]
          have c13 := Q7.setRow (cs := #[.int .i64 (F.tmod 4), .int .i64 (Mk.iv I), .int .i64 (Mk.cnt E C), .int .i64 (Mk.unt E U), .slice A1 (Mk.mon lm).length c1, .slice A2 (Mk.D F ld).length c2, .slice A3 ((Mk.W F lw).map (·.1)).length c3, .slice A4 (Mk.P F lm ld lw lp).length c4])
          have c14 := Q8.exc (e6 u4.heap.size) Q8.lt (by omega)
          have Gp := Fp.exc (e6 u4.heap.size) (by omega) tp0 tp1 tp2 tp3
          have Gq := Fq.exc (e6 u4.heap.size) (by omega) tq0 tq1 tq2 tq3
          refine heldL_store 6 (w' := u4.setRow (u0.heap.size) #[.int .i64 (F.tmod 4), .int .i64 (Mk.iv I), .int .i64 (Mk.cnt E C), .int .i64 (Mk.unt E U), .slice A1 (Mk.mon lm).length c1, .slice A2 (Mk.D F ld).length c2, .slice A3 ((Mk.W F lw).map (·.1)).length c3, .slice A4 (Mk.P F lm ld lw lp).length c4]) (by kernel_rfl) (by kernel_rfl) ?z660 (lz.trans ((e6 w.heap.size).below (by omega))) ?z661
          case z660 => exact frY rfl (k_storeR rfl (ev_tmp h7) (ev_tmp h30) Q7 rfl rfl (by simp [Value.oneCell']))
          case z661 =>
          have e7 := exc_setRow (u4.setRow (u0.heap.size) #[.int .i64 (F.tmod 4), .int .i64 (Mk.iv I), .int .i64 (Mk.cnt E C), .int .i64 (Mk.unt E U), .slice A1 (Mk.mon lm).length c1, .slice A2 (Mk.D F ld).length c2, .slice A3 ((Mk.W F lw).map (·.1)).length c3, .slice A4 (Mk.P F lm ld lw lp).length c4]) (u3.heap.size) #[.int .i64 (F'.tmod 4), .int .i64 (Mk.iv I'), .int .i64 (Mk.cnt E' C'), .int .i64 (Mk.unt E' U'), .slice B1 (Mk.mon lm').length d1, .slice B2 (Mk.D F' ld').length d2, .slice B3 ((Mk.W F' lw').map (·.1)).length d3, .slice B4 (Mk.P F' lm' ld' lw' lp').length d4]
          have g14 := c14.setRow (cs := #[.int .i64 (F'.tmod 4), .int .i64 (Mk.iv I'), .int .i64 (Mk.cnt E' C'), .int .i64 (Mk.unt E' U'), .slice B1 (Mk.mon lm').length d1, .slice B2 (Mk.D F' ld').length d2, .slice B3 ((Mk.W F' lw').map (·.1)).length d3, .slice B4 (Mk.P F' lm' ld' lw' lp').length d4])
          have g13 := c13.exc (e7 _) c13.lt (by omega)
          have Hp := (Gp.exc (e7 _) (by omega) tp0 tp1 tp2 tp3).plain
          have Hq := (Gq.exc (e7 _) (by omega) tq0 tq1 tq2 tq3).plain
          have lzz := (lz.trans ((e6 w.heap.size).below (by omega))).trans ((e7 w.heap.size).below (by omega))
          refine heldL_store 7 (w' := (u4.setRow (u0.heap.size) #[.int .i64 (F.tmod 4), .int .i64 (Mk.iv I), .int .i64 (Mk.cnt E C), .int .i64 (Mk.unt E U), .slice A1 (Mk.mon lm).length c1, .slice A2 (Mk.D F ld).length c2, .slice A3 ((Mk.W F lw).map (·.1)).length c3, .slice A4 (Mk.P F lm ld lw lp).length c4]).setRow (u3.heap.size) #[.int .i64 (F'.tmod 4), .int .i64 (Mk.iv I'), .int .i64 (Mk.cnt E' C'), .int .i64 (Mk.unt E' U'), .slice B1 (Mk.mon lm').length d1, .slice B2 (Mk.D F' ld').length d2, .slice B3 ((Mk.W F' lw').map (·.1)).length d3, .slice B4 (Mk.P F' lm' ld' lw' lp').length d4]) (by kernel_rfl) (by kernel_rfl) ?z662 lzz ?z663
          case z662 => exact frY rfl (k_storeR rfl (ev_tmp h8) (ev_tmp h32) c14 rfl rfl (by simp [Value.oneCell']))
          case z663 =>
          refine wpAnyH_done (by kernel_rfl) ?_ _
          exact hR a _ _ _ A1 A2 A3 A4 B1 B2 B3 B4 c1 c2 c3 c4 d1 d2 d3 d4 hs hd h7 h8 g13 g14 Hp Hq lzz
      case z648 =>
        refine cont_val 5 8 (v := .pointer (some ⟨u2.heap.size, 0, none⟩)) (w' := u2.alloc (.cells #[.int .i64 0, .int .i64 0, .int .i64 0, .int .i64 0, .slice none 0 0, .slice none 0 0, .slice none 0 0, .slice none 0 0] 36)) (by kernel_rfl) (frZ hs) ?z664 (lz.trans (((Below.refl _ _).alloc (Nat.le_refl _) _).mono lz.size)) ?z665
        case z664 => exact frY rfl (k_allocR rfl)
        case z665 =>
        refine frN6 hs hd h3 h4 h29 h31 h7 h30 ?_; clear hs hd h3 h4 h29 h31 h7 h30; intro a hs hd h3 h4 h29 h31 h7 h30 h8
        obtain ⟨u3, hwn⟩ : ∃ wn, wn = u2.alloc (.cells #[.int .i64 0, .int .i64 0, .int .i64 0, .int .i64 0, .slice none 0 0, .slice none 0 0, .slice none 0 0, .slice none 0 0] 36) := ⟨_, rfl⟩
        rw [← hwn]
        have qn : Blk u3 u2.heap.size 36 #[.int .i64 0, .int .i64 0, .int .i64 0, .int .i64 0, .slice none 0 0, .slice none 0 0, .slice none 0 0, .slice none 0 0] := by rw [hwn]; exact Blk.alloc _ _ _
        have ln : Below u2.heap.size u2 u3 := by rw [hwn]; exact (Below.refl _ _).alloc (Nat.le_refl _) _
        clear hwn
        have l := ln
        clear ln
        have hz2 := qn.lt
        have Q8 := qn
        clear qn
        replace lz := lz.trans (l.mono lz.size)
        replace Fp := Fp.below l
        replace Q7 := Q7.below l Q7.lt
        clear l
        refine heldL_one 3 (by kernel_rfl) ?z669
        case z669 =>
          have hc := make_any' F' I' E' C' U' AM' AD' AW' AP' cM' cD' cW' cP' lm' ld' lw' lp' u3 (hY.below lz)
          have hx := fun ops Q S fuel listed d a i h1 h2 h3 => cont_call (P := Tryz.prog) (ops := ops) (Q := Q) (S := S) (fuel := fuel) (listed := listed) (a := a) (w := u3) i d h1 h2 h3 hc
          refine hx _ _ _ _ _ 32 _ 3 ?z673 ?z674 ?z670 ?z672 ?z671
          case z673 => kernel_rfl
          case z674 => (rw [hs]; decide)
          case z670 => exact frY rfl (c_Make rfl rfl (ev_tmp h31))
          case z672 => (rintro _ _ ⟨_, _, _, _, _, _, _, _, _, _, _, rfl, _, l⟩; exact lz.trans (l.mono lz.size))
          case z671 =>
          clear hx hc
          rintro _ u4 a ⟨B1, B2, B3, B4, d1, d2, d3, d4, sD, sW, sP, rfl, Fq, l⟩ F0
          replace hs := F0.z.trans hs
          replace hd := F0.e.trans hd
          replace h3 := (F0.n 3 (by decide)).trans h3
          replace h4 := (F0.n 4 (by decide)).trans h4
          replace h29 := (F0.n 29 (by decide)).trans h29
          replace h31 := (F0.n 31 (by decide)).trans h31
          replace h7 := (F0.n 7 (by decide)).trans h7
          replace h30 := (F0.n 30 (by decide)).trans h30
          replace h8 := (F0.n 8 (by decide)).trans h8
          have h32 := F0.s
          clear F0
          have tq0 := fun g hg => (Fq.oM.lt g hg).2
          have tq1 := fun g hg => (Fq.oD.lt g hg).2
          have tq2 := fun g hg => (Fq.oW.lt g hg).2
          have tq3 := fun g hg => (Fq.oP.lt g hg).2
          have hz3 := l.size
          replace lz := lz.trans (l.mono lz.size)
          replace Fp := Fp.below l
          replace Q7 := Q7.below l Q7.lt
          replace Q8 := Q8.below l Q8.lt
          clear l
          have z0 := lz0.size
          have e6 := exc_setRow u4 (u0.heap.size) #[.int .i64 (F.tmod 4), .int .i64 (Mk.iv I), .int .i64 (Mk.cnt E C), .int .i64 (Mk.unt E U), .slice A1 (Mk.mon lm).length c1, .slice A2 (Mk.D F ld).length c2, .slice A3 ((Mk.W F lw).map (·.1)).length c3, .slice A4 (Mk.P F lm ld lw lp).length c4]
          have c13 := Q7.setRow (cs := #[.int .i64 (F.tmod 4), .int .i64 (Mk.iv I), .int .i64 (Mk.cnt E C), .int .i64 (Mk.unt E U), .slice A1 (Mk.mon lm).length c1, .slice A2 (Mk.D F ld).length c2, .slice A3 ((Mk.W F lw).map (·.1)).length c3, .slice A4 (Mk.P F lm ld lw lp).length c4])
          have c14 := Q8.exc (e6 u4.heap.size) Q8.lt (by omega)
          have Gp := Fp.exc (e6 u4.heap.size) (by omega) tp0 tp1 tp2 tp3
          have Gq := Fq.exc (e6 u4.heap.size) (by omega) tq0 tq1 tq2 tq3
          refine heldL_store 6 (w' := u4.setRow (u0.heap.size) #[.int .i64 (F.tmod 4), .int .i64 (Mk.iv I), .int .i64 (Mk.cnt E C), .int .i64 (Mk.unt E U), .slice A1 (Mk.mon lm).length c1, .slice A2 (Mk.D F ld).length c2, .slice A3 ((Mk.W F lw).map (·.1)).length c3, .slice A4 (Mk.P F lm ld lw lp).length c4]) (by kernel_rfl) (by kernel_rfl) ?z675 (lz.trans ((e6 w.heap.size).below (by omega))) ?z676
          case z675 => exact frY rfl (k_storeR rfl (ev_tmp h7) (ev_tmp h30) Q7 rfl rfl (by simp [Value.oneCell']))
          case z676 =>
          have e7 := exc_setRow (u4.setRow (u0.heap.size) #[.int .i64 (F.tmod 4), .int .i64 (Mk.iv I), .int .i64 (Mk.cnt E C), .int .i64 (Mk.unt E U), .slice A1 (Mk.mon lm).length c1, .slice A2 (Mk.D F ld).length c2, .slice A3 ((Mk.W F lw).map (·.1)).length c3, .slice A4 (Mk.P F lm ld lw lp).length c4]) (u2.heap.size) #[.int .i64 (F'.tmod 4), .int .i64 (Mk.iv I'), .int .i64 (Mk.cnt E' C'), .int .i64 (Mk.unt E' U'), .slice B1 (Mk.mon lm').length d1, .slice B2 (Mk.D F' ld').length d2, .slice B3 ((Mk.W F' lw').map (·.1)).length d3, .slice B4 (Mk.P F' lm' ld' lw' lp').length d4]
          have g14 := c14.setRow (cs := #[.int .i64 (F'.tmod 4), .int .i64 (Mk.iv I'), .int .i64 (Mk.cnt E' C'), .int .i64 (Mk.unt E' U'), .slice B1 (Mk.mon lm').length d1, .slice B2 (Mk.D F' ld').length d2, .slice B3 ((Mk.W F' lw').map (·.1)).length d3, .slice B4 (Mk.P F' lm' ld' lw' lp').length d4])
          have g13 := c13.exc (e7 _) c13.lt (by omega)
          have Hp := (Gp.exc (e7 _) (by omega) tp0 tp1 tp2 tp3).plain
          have Hq := (Gq.exc (e7 _) (by omega) tq0 tq1 tq2 tq3).plain
          have lzz := (lz.trans ((e6 w.heap.size).below (by omega))).trans ((e7 w.heap.size).below (by omega))
          refine heldL_store 7 (w' := (u4.setRow (u0.heap.size) #[.int .i64 (F.tmod 4), .int .i64 (Mk.iv I), .int .i64 (Mk.cnt E C), .int .i64 (Mk.unt E U), .slice A1 (Mk.mon lm).length c1, .slice A2 (Mk.D F ld).length c2, .slice A3 ((Mk.W F lw).map (·.1)).length c3, .slice A4 (Mk.P F lm ld lw lp).length c4]).setRow (u2.heap.size) #[.int .i64 (F'.tmod 4), .int .i64 (Mk.iv I'), .int .i64 (Mk.cnt E' C'), .int .i64 (Mk.unt E' U'), .slice B1 (Mk.mon lm').length d1, .slice B2 (Mk.D F' ld').length d2, .slice B3 ((Mk.W F' lw').map (·.1)).length d3, .slice B4 (Mk.P F' lm' ld' lw' lp').length d4]) (by kernel_rfl) (by kernel_rfl) ?z677 lzz ?z678
          case z677 => exact frY rfl (k_storeR rfl (ev_tmp h8) (ev_tmp h32) c14 rfl rfl (by simp [Value.oneCell']))
          case z678 =>
          refine wpAnyH_done (by kernel_rfl) ?_ _
          exact hR a _ _ _ A1 A2 A3 A4 B1 B2 B3 B4 c1 c2 c3 c4 d1 d2 d3 d4 hs hd h7 h8 g13 g14 Hp Hq lzz
    case z641 =>
      refine cont_val 5 8 (v := .pointer (some ⟨u1.heap.size, 0, none⟩)) (w' := u1.alloc (.cells #[.int .i64 0, .int .i64 0, .int .i64 0, .int .i64 0, .slice none 0 0, .slice none 0 0, .slice none 0 0, .slice none 0 0] 36)) (by kernel_rfl) (frZ hs) ?z679 (lz.trans (((Below.refl _ _).alloc (Nat.le_refl _) _).mono lz.size)) ?z680
      case z679 => exact frY rfl (k_allocR rfl)
      case z680 =>
      refine frN5 hs hd h3 h4 h29 h31 h7 ?_; clear hs hd h3 h4 h29 h31 h7; intro a hs hd h3 h4 h29 h31 h7 h8
      obtain ⟨u2, hwn⟩ : ∃ wn, wn = u1.alloc (.cells #[.int .i64 0, .int .i64 0, .int .i64 0, .int .i64 0, .slice none 0 0, .slice none 0 0, .slice none 0 0, .slice none 0 0] 36) := ⟨_, rfl⟩
      rw [← hwn]
      have qn : Blk u2 u1.heap.size 36 #[.int .i64 0, .int .i64 0, .int .i64 0, .int .i64 0, .slice none 0 0, .slice none 0 0, .slice none 0 0, .slice none 0 0] := by rw [hwn]; exact Blk.alloc _ _ _
      have ln : Below u1.heap.size u1 u2 := by rw [hwn]; exact (Below.refl _ _).alloc (Nat.le_refl _) _
      clear hwn
      have l := ln
      clear ln
      have hz1 := qn.lt
      have Q8 := qn
      clear qn
      replace lz := lz.trans (l.mono lz.size)
      replace Q7 := Q7.below l Q7.lt
      clear l
      refine heldL_one 1 (by kernel_rfl) ?z684
      case z684 =>
        have hc := make_any' F I E C U AM AD AW AP cM cD cW cP lm ld lw lp u2 (hX.below lz)
        have hx := fun ops Q S fuel listed d a i h1 h2 h3 => cont_call (P := Tryz.prog) (ops := ops) (Q := Q) (S := S) (fuel := fuel) (listed := listed) (a := a) (w := u2) i d h1 h2 h3 hc
        refine hx _ _ _ _ _ 30 _ 1 ?z688 ?z689 ?z685 ?z687 ?z686
        case z688 => kernel_rfl
        case z689 => (rw [hs]; decide)
        case z685 => exact frY rfl (c_Make rfl rfl (ev_tmp h29))
        case z687 => (rintro _ _ ⟨_, _, _, _, _, _, _, _, _, _, _, rfl, _, l⟩; exact lz.trans (l.mono lz.size))
        case z686 =>
        clear hx hc
        rintro _ u3 a ⟨A1, A2, A3, A4, c1, c2, c3, c4, tD, tW, tP, rfl, Fp, l⟩ F0
        replace hs := F0.z.trans hs
        replace hd := F0.e.trans hd
        replace h3 := (F0.n 3 (by decide)).trans h3
        replace h4 := (F0.n 4 (by decide)).trans h4
        replace h29 := (F0.n 29 (by decide)).trans h29
        replace h31 := (F0.n 31 (by decide)).trans h31
        replace h7 := (F0.n 7 (by decide)).trans h7
        replace h8 := (F0.n 8 (by decide)).trans h8
        have h30 := F0.s
        clear F0
        have tp0 := fun g hg => (Fp.oM.lt g hg).2
        have tp1 := fun g hg => (Fp.oD.lt g hg).2
        have tp2 := fun g hg => (Fp.oW.lt g hg).2
        have tp3 := fun g hg => (Fp.oP.lt g hg).2
        have hz2 := l.size
        replace lz := lz.trans (l.mono lz.size)
        replace Q7 := Q7.below l Q7.lt
        replace Q8 := Q8.below l Q8.lt
        clear l
        refine heldL_one 3 (by kernel_rfl) ?z690
        case z690 =>
          have hc := make_any' F' I' E' C' U' AM' AD' AW' AP' cM' cD' cW' cP' lm' ld' lw' lp' u3 (hY.below lz)
          have hx := fun ops Q S fuel listed d a i h1 h2 h3 => cont_call (P := Tryz.prog) (ops := ops) (Q := Q) (S := S) (fuel := fuel) (listed := listed) (a := a) (w := u3) i d h1 h2 h3 hc
          refine hx _ _ _ _ _ 32 _ 3 ?z694 ?z695 ?z691 ?z693 ?z692
          case z694 => kernel_rfl
          case z695 => (rw [hs]; decide)
          case z691 => exact frY rfl (c_Make rfl rfl (ev_tmp h31))
          case z693 => (rintro _ _ ⟨_, _, _, _, _, _, _, _, _, _, _, rfl, _, l⟩; exact lz.trans (l.mono lz.size))
          case z692 =>
          clear hx hc
          rintro _ u4 a ⟨B1, B2, B3, B4, d1, d2, d3, d4, sD, sW, sP, rfl, Fq, l⟩ F0
          replace hs := F0.z.trans hs
          replace hd := F0.e.trans hd
          replace h3 := (F0.n 3 (by decide)).trans h3
          replace h4 := (F0.n 4 (by decide)).trans h4
          replace h29 := (F0.n 29 (by decide)).trans h29
          replace h31 := (F0.n 31 (by decide)).trans h31
          replace h7 := (F0.n 7 (by decide)).trans h7
          replace h8 := (F0.n 8 (by decide)).trans h8
          replace h30 := (F0.n 30 (by decide)).trans h30
          have h32 := F0.s
          clear F0
          have tq0 := fun g hg => (Fq.oM.lt g hg).2
          have tq1 := fun g hg => (Fq.oD.lt g hg).2
          have tq2 := fun g hg => (Fq.oW.lt g hg).2
          have tq3 := fun g hg => (Fq.oP.lt g hg).2
          have hz3 := l.size
          replace lz := lz.trans (l.mono lz.size)
          replace Fp := Fp.below l
          replace Q7 := Q7.below l Q7.lt
          replace Q8 := Q8.below l Q8.lt
          clear l
          have z0 := lz0.size
          have e6 := exc_setRow u4 (u0.heap.size) #[.int .i64 (F.tmod 4), .int .i64 (Mk.iv I), .int .i64 (Mk.cnt E C), .int .i64 (Mk.unt E U), .slice A1 (Mk.mon lm).length c1, .slice A2 (Mk.D F ld).length c2, .slice A3 ((Mk.W F lw).map (·.1)).length c3, .slice A4 (Mk.P F lm ld lw lp).length c4]
          have c13 := Q7.setRow (cs := #[.int .i64 (F.tmod 4), .int .i64 (Mk.iv I), .int .i64 (Mk.cnt E C), .int .i64 (Mk.unt E U), .slice A1 (Mk.mon lm).length c1, .slice A2 (Mk.D F ld).length c2, .slice A3 ((Mk.W F lw).map (·.1)).length c3, .slice A4 (Mk.P F lm ld lw lp).length c4])
          have c14 := Q8.exc (e6 u4.heap.size) Q8.lt (by omega)
          have Gp := Fp.exc (e6 u4.heap.size) (by omega) tp0 tp1 tp2 tp3
          have Gq := Fq.exc (e6 u4.heap.size) (by omega) tq0 tq1 tq2 tq3
          refine heldL_store 6 (w' := u4.setRow (u0.heap.size) #[.int .i64 (F.tmod 4), .int .i64 (Mk.iv I), .int .i64 (Mk.cnt E C), .int .i64 (Mk.unt E U), .slice A1 (Mk.mon lm).length c1, .slice A2 (Mk.D F ld).length c2, .slice A3 ((Mk.W F lw).map (·.1)).length c3, .slice A4 (Mk.P F lm ld lw lp).length c4]) (by kernel_rfl) (by kernel_rfl) ?z696 (lz.trans ((e6 w.heap.size).below (by omega))) ?z697
          case z696 => exact frY rfl (k_storeR rfl (ev_tmp h7) (ev_tmp h30) Q7 rfl rfl (by simp [Value.oneCell']))
          case z697 =>
          have e7 := exc_setRow (u4.setRow (u0.heap.size) #[.int .i64 (F.tmod 4), .int .i64 (Mk.iv I), .int .i64 (Mk.cnt E C), .int .i64 (Mk.unt E U), .slice A1 (Mk.mon lm).length c1, .slice A2 (Mk.D F ld).length c2, .slice A3 ((Mk.W F lw).map (·.1)).length c3, .slice A4 (Mk.P F lm ld lw lp).length c4]) (u1.heap.size) #[.int .i64 (F'.tmod 4), .int .i64 (Mk.iv I'), .int .i64 (Mk.cnt E' C'), .int .i64 (Mk.unt E' U'), .slice B1 (Mk.mon lm').length d1, .slice B2 (Mk.D F' ld').length d2, .slice B3 ((Mk.W F' lw').map (·.1)).length d3, .slice B4 (Mk.P F' lm' ld' lw' lp').length d4]
          have g14 := c14.setRow (cs := #[.int .i64 (F'.tmod 4), .int .i64 (Mk.iv I'), .int .i64 (Mk.cnt E' C'), .int .i64 (Mk.unt E' U'), .slice B1 (Mk.mon lm').length d1, .slice B2 (Mk.D F' ld').length d2, .slice B3 ((Mk.W F' lw').map (·.1)).length d3, .slice B4 (Mk.P F' lm' ld' lw' lp').length d4])
          have g13 := c13.exc (e7 _) c13.lt (by omega)
          have Hp := (Gp.exc (e7 _) (by omega) tp0 tp1 tp2 tp3).plain
          have Hq := (Gq.exc (e7 _) (by omega) tq0 tq1 tq2 tq3).plain
          have lzz := (lz.trans ((e6 w.heap.size).below (by omega))).trans ((e7 w.heap.size).below (by omega))
          refine heldL_store 7 (w' := (u4.setRow (u0.heap.size) #[.int .i64 (F.tmod 4), .int .i64 (Mk.iv I), .int .i64 (Mk.cnt E C), .int .i64 (Mk.unt E U), .slice A1 (Mk.mon lm).length c1, .slice A2 (Mk.D F ld).length c2, .slice A3 ((Mk.W F lw).map (·.1)).length c3, .slice A4 (Mk.P F lm ld lw lp).length c4]).setRow (u1.heap.size) #[.int .i64 (F'.tmod 4), .int .i64 (Mk.iv I'), .int .i64 (Mk.cnt E' C'), .int .i64 (Mk.unt E' U'), .slice B1 (Mk.mon lm').length d1, .slice B2 (Mk.D F' ld').length d2, .slice B3 ((Mk.W F' lw').map (·.1)).length d3, .slice B4 (Mk.P F' lm' ld' lw' lp').length d4]) (by kernel_rfl) (by kernel_rfl) ?z698 lzz ?z699
          case z698 => exact frY rfl (k_storeR rfl (ev_tmp h8) (ev_tmp h32) c14 rfl rfl (by simp [Value.oneCell']))
          case z699 =>
          refine wpAnyH_done (by kernel_rfl) ?_ _
          exact hR a _ _ _ A1 A2 A3 A4 B1 B2 B3 B4 c1 c2 c3 c4 d1 d2 d3 d4 hs hd h7 h8 g13 g14 Hp Hq lzz
  case z515 =>
    refine cont_val 5 8 (v := .pointer (some ⟨u0.heap.size, 0, none⟩)) (w' := u0.alloc (.cells #[.int .i64 0, .int .i64 0, .int .i64 0, .int .i64 0, .slice none 0 0, .slice none 0 0, .slice none 0 0, .slice none 0 0] 36)) (by kernel_rfl) (frZ hs) ?z700 (lz.trans (((Below.refl _ _).alloc (Nat.le_refl _) _).mono lz.size)) ?z701
    case z700 => exact frY rfl (k_allocR rfl)
    case z701 =>
    refine frN4 hs hd h3 h4 h29 h31 ?_; clear hs hd h3 h4 h29 h31; intro a hs hd h3 h4 h29 h31 h8
    obtain ⟨u1, hwn⟩ : ∃ wn, wn = u0.alloc (.cells #[.int .i64 0, .int .i64 0, .int .i64 0, .int .i64 0, .slice none 0 0, .slice none 0 0, .slice none 0 0, .slice none 0 0] 36) := ⟨_, rfl⟩
    rw [← hwn]
    have qn : Blk u1 u0.heap.size 36 #[.int .i64 0, .int .i64 0, .int .i64 0, .int .i64 0, .slice none 0 0, .slice none 0 0, .slice none 0 0, .slice none 0 0] := by rw [hwn]; exact Blk.alloc _ _ _
    have ln : Below u0.heap.size u0 u1 := by rw [hwn]; exact (Below.refl _ _).alloc (Nat.le_refl _) _
    clear hwn
    have l := ln
    clear ln
    have hz0 := qn.lt
    have Q8 := qn
    clear qn
    replace lz := lz.trans (l.mono lz.size)
    clear l
    refine heldL_two 1 4 (by kernel_rfl) ?z705 ?z706
    case z705 =>
      have hc := make_any' F I E C U AM AD AW AP cM cD cW cP lm ld lw lp u1 (hX.below lz)
      have hx := fun ops Q S fuel listed d a i h1 h2 h3 => cont_call (P := Tryz.prog) (ops := ops) (Q := Q) (S := S) (fuel := fuel) (listed := listed) (a := a) (w := u1) i d h1 h2 h3 hc
      refine hx _ _ _ _ _ 30 _ 1 ?z710 ?z711 ?z707 ?z709 ?z708
      case z710 => kernel_rfl
      case z711 => (rw [hs]; decide)
      case z707 => exact frY rfl (c_Make rfl rfl (ev_tmp h29))
      case z709 => (rintro _ _ ⟨_, _, _, _, _, _, _, _, _, _, _, rfl, _, l⟩; exact lz.trans (l.mono lz.size))
      case z708 =>
      clear hx hc
      rintro _ u2 a ⟨A1, A2, A3, A4, c1, c2, c3, c4, tD, tW, tP, rfl, Fp, l⟩ F0
      replace hs := F0.z.trans hs
      replace hd := F0.e.trans hd
      replace h3 := (F0.n 3 (by decide)).trans h3
      replace h4 := (F0.n 4 (by decide)).trans h4
      replace h29 := (F0.n 29 (by decide)).trans h29
      replace h31 := (F0.n 31 (by decide)).trans h31
      replace h8 := (F0.n 8 (by decide)).trans h8
      have h30 := F0.s
      clear F0
      have tp0 := fun g hg => (Fp.oM.lt g hg).2
      have tp1 := fun g hg => (Fp.oD.lt g hg).2
      have tp2 := fun g hg => (Fp.oW.lt g hg).2
      have tp3 := fun g hg => (Fp.oP.lt g hg).2
      have hz1 := l.size
      replace lz := lz.trans (l.mono lz.size)
      replace Q8 := Q8.below l Q8.lt
      clear l
      refine heldL_two 3 4 (by kernel_rfl) ?z712 ?z713
      case z712 =>
        have hc := make_any' F' I' E' C' U' AM' AD' AW' AP' cM' cD' cW' cP' lm' ld' lw' lp' u2 (hY.below lz)
        have hx := fun ops Q S fuel listed d a i h1 h2 h3 => cont_call (P := Tryz.prog) (ops := ops) (Q := Q) (S := S) (fuel := fuel) (listed := listed) (a := a) (w := u2) i d h1 h2 h3 hc
        refine hx _ _ _ _ _ 32 _ 3 ?z717 ?z718 ?z714 ?z716 ?z715
        case z717 => kernel_rfl
        case z718 => (rw [hs]; decide)
        case z714 => exact frY rfl (c_Make rfl rfl (ev_tmp h31))
        case z716 => (rintro _ _ ⟨_, _, _, _, _, _, _, _, _, _, _, rfl, _, l⟩; exact lz.trans (l.mono lz.size))
        case z715 =>
        clear hx hc
        rintro _ u3 a ⟨B1, B2, B3, B4, d1, d2, d3, d4, sD, sW, sP, rfl, Fq, l⟩ F0
        replace hs := F0.z.trans hs
        replace hd := F0.e.trans hd
        replace h3 := (F0.n 3 (by decide)).trans h3
        replace h4 := (F0.n 4 (by decide)).trans h4
        replace h29 := (F0.n 29 (by decide)).trans h29
        replace h31 := (F0.n 31 (by decide)).trans h31
        replace h8 := (F0.n 8 (by decide)).trans h8
        replace h30 := (F0.n 30 (by decide)).trans h30
        have h32 := F0.s
        clear F0
        have tq0 := fun g hg => (Fq.oM.lt g hg).2
        have tq1 := fun g hg => (Fq.oD.lt g hg).2
        have tq2 := fun g hg => (Fq.oW.lt g hg).2
        have tq3 := fun g hg => (Fq.oP.lt g hg).2
        have hz2 := l.size
        replace lz := lz.trans (l.mono lz.size)
        replace Fp := Fp.below l
        replace Q8 := Q8.below l Q8.lt
        clear l
        refine heldL_one 4 (by kernel_rfl) ?z719
        case z719 =>
          refine cont_val 4 7 (v := .pointer (some ⟨u3.heap.size, 0, none⟩)) (w' := u3.alloc (.cells #[.int .i64 0, .int .i64 0, .int .i64 0, .int .i64 0, .slice none 0 0, .slice none 0 0, .slice none 0 0, .slice none 0 0] 36)) (by kernel_rfl) (frZ hs) ?z720 (lz.trans (((Below.refl _ _).alloc (Nat.le_refl _) _).mono lz.size)) ?z721
          case z720 => exact frY rfl (k_allocR rfl)
          case z721 =>
          refine frN7 hs hd h3 h4 h29 h31 h8 h30 h32 ?_; clear hs hd h3 h4 h29 h31 h8 h30 h32; intro a hs hd h3 h4 h29 h31 h8 h30 h32 h7
          obtain ⟨u4, hwn⟩ : ∃ wn, wn = u3.alloc (.cells #[.int .i64 0, .int .i64 0, .int .i64 0, .int .i64 0, .slice none 0 0, .slice none 0 0, .slice none 0 0, .slice none 0 0] 36) := ⟨_, rfl⟩
          rw [← hwn]
          have qn : Blk u4 u3.heap.size 36 #[.int .i64 0, .int .i64 0, .int .i64 0, .int .i64 0, .slice none 0 0, .slice none 0 0, .slice none 0 0, .slice none 0 0] := by rw [hwn]; exact Blk.alloc _ _ _
          have ln : Below u3.heap.size u3 u4 := by rw [hwn]; exact (Below.refl _ _).alloc (Nat.le_refl _) _
          clear hwn
          have l := ln
          clear ln
          have hz3 := qn.lt
          have Q7 := qn
          clear qn
          replace lz := lz.trans (l.mono lz.size)
          replace Fp := Fp.below l
          replace Fq := Fq.below l
          replace Q8 := Q8.below l Q8.lt
          clear l
          have z0 := lz0.size
          have e6 := exc_setRow u4 (u3.heap.size) #[.int .i64 (F.tmod 4), .int .i64 (Mk.iv I), .int .i64 (Mk.cnt E C), .int .i64 (Mk.unt E U), .slice A1 (Mk.mon lm).length c1, .slice A2 (Mk.D F ld).length c2, .slice A3 ((Mk.W F lw).map (·.1)).length c3, .slice A4 (Mk.P F lm ld lw lp).length c4]
          have c13 := Q7.setRow (cs := #[.int .i64 (F.tmod 4), .int .i64 (Mk.iv I), .int .i64 (Mk.cnt E C), .int .i64 (Mk.unt E U), .slice A1 (Mk.mon lm).length c1, .slice A2 (Mk.D F ld).length c2, .slice A3 ((Mk.W F lw).map (·.1)).length c3, .slice A4 (Mk.P F lm ld lw lp).length c4])
          have c14 := Q8.exc (e6 u4.heap.size) Q8.lt (by omega)
          have Gp := Fp.exc (e6 u4.heap.size) (by omega) tp0 tp1 tp2 tp3
          have Gq := Fq.exc (e6 u4.heap.size) (by omega) tq0 tq1 tq2 tq3
          refine heldL_store 6 (w' := u4.setRow (u3.heap.size) #[.int .i64 (F.tmod 4), .int .i64 (Mk.iv I), .int .i64 (Mk.cnt E C), .int .i64 (Mk.unt E U), .slice A1 (Mk.mon lm).length c1, .slice A2 (Mk.D F ld).length c2, .slice A3 ((Mk.W F lw).map (·.1)).length c3, .slice A4 (Mk.P F lm ld lw lp).length c4]) (by kernel_rfl) (by kernel_rfl) ?z725 (lz.trans ((e6 w.heap.size).below (by omega))) ?z726
          case z725 => exact frY rfl (k_storeR rfl (ev_tmp h7) (ev_tmp h30) Q7 rfl rfl (by simp [Value.oneCell']))
          case z726 =>
          have e7 := exc_setRow (u4.setRow (u3.heap.size) #[.int .i64 (F.tmod 4), .int .i64 (Mk.iv I), .int .i64 (Mk.cnt E C), .int .i64 (Mk.unt E U), .slice A1 (Mk.mon lm).length c1, .slice A2 (Mk.D F ld).length c2, .slice A3 ((Mk.W F lw).map (·.1)).length c3, .slice A4 (Mk.P F lm ld lw lp).length c4]) (u0.heap.size) #[.int .i64 (F'.tmod 4), .int .i64 (Mk.iv I'), .int .i64 (Mk.cnt E' C'), .int .i64 (Mk.unt E' U'), .slice B1 (Mk.mon lm').length d1, .slice B2 (Mk.D F' ld').length d2, .slice B3 ((Mk.W F' lw').map (·.1)).length d3, .slice B4 (Mk.P F' lm' ld' lw' lp').length d4]
          have g14 := c14.setRow (cs := #[.int .i64 (F'.tmod 4), .int .i64 (Mk.iv I'), .int .i64 (Mk.cnt E' C'), .int .i64 (Mk.unt E' U'), .slice B1 (Mk.mon lm').length d1, .slice B2 (Mk.D F' ld').length d2, .slice B3 ((Mk.W F' lw').map (·.1)).length d3, .slice B4 (Mk.P F' lm' ld' lw' lp').length d4])
          have g13 := c13.exc (e7 _) c13.lt (by omega)
          have Hp := (Gp.exc (e7 _) (by omega) tp0 tp1 tp2 tp3).plain
          have Hq := (Gq.exc (e7 _) (by omega) tq0 tq1 tq2 tq3).plain
          have lzz := (lz.trans ((e6 w.heap.size).below (by omega))).trans ((e7 w.heap.size).below (by omega))
          refine heldL_store 7 (w' := (u4.setRow (u3.heap.size) #[.int .i64 (F.tmod 4), .int .i64 (Mk.iv I), .int .i64 (Mk.cnt E C), .int .i64 (Mk.unt E U), .slice A1 (Mk.mon lm).length c1, .slice A2 (Mk.D F ld).length c2, .slice A3 ((Mk.W F lw).map (·.1)).length c3, .slice A4 (Mk.P F lm ld lw lp).length c4]).setRow (u0.heap.size) #[.int .i64 (F'.tmod 4), .int .i64 (Mk.iv I'), .int .i64 (Mk.cnt E' C'), .int .i64 (Mk.unt E' U'), .slice B1 (Mk.mon lm').length d1, .slice B2 (Mk.D F' ld').length d2, .slice B3 ((Mk.W F' lw').map (·.1)).length d3, .slice B4 (Mk.P F' lm' ld' lw' lp').length d4]) (by kernel_rfl) (by kernel_rfl) ?z727 lzz ?z728
          case z727 => exact frY rfl (k_storeR rfl (ev_tmp h8) (ev_tmp h32) c14 rfl rfl (by simp [Value.oneCell']))
          case z728 =>
          refine wpAnyH_done (by kernel_rfl) ?_ _
          exact hR a _ _ _ A1 A2 A3 A4 B1 B2 B3 B4 c1 c2 c3 c4 d1 d2 d3 d4 hs hd h7 h8 g13 g14 Hp Hq lzz
      case z713 =>
        refine cont_val 4 7 (v := .pointer (some ⟨u2.heap.size, 0, none⟩)) (w' := u2.alloc (.cells #[.int .i64 0, .int .i64 0, .int .i64 0, .int .i64 0, .slice none 0 0, .slice none 0 0, .slice none 0 0, .slice none 0 0] 36)) (by kernel_rfl) (frZ hs) ?z729 (lz.trans (((Below.refl _ _).alloc (Nat.le_refl _) _).mono lz.size)) ?z730
        case z729 => exact frY rfl (k_allocR rfl)
        case z730 =>
        refine frN6 hs hd h3 h4 h29 h31 h8 h30 ?_; clear hs hd h3 h4 h29 h31 h8 h30; intro a hs hd h3 h4 h29 h31 h8 h30 h7
        obtain ⟨u3, hwn⟩ : ∃ wn, wn = u2.alloc (.cells #[.int .i64 0, .int .i64 0, .int .i64 0, .int .i64 0, .slice none 0 0, .slice none 0 0, .slice none 0 0, .slice none 0 0] 36) := ⟨_, rfl⟩
        rw [← hwn]
        have qn : Blk u3 u2.heap.size 36 #[.int .i64 0, .int .i64 0, .int .i64 0, .int .i64 0, .slice none 0 0, .slice none 0 0, .slice none 0 0, .slice none 0 0] := by rw [hwn]; exact Blk.alloc _ _ _
        have ln : Below u2.heap.size u2 u3 := by rw [hwn]; exact (Below.refl _ _).alloc (Nat.le_refl _) _
        clear hwn
        have l := ln
        clear ln
        have hz2 := qn.lt
        have Q7 := qn
        clear qn
        replace lz := lz.trans (l.mono lz.size)
        replace Fp := Fp.below l
        replace Q8 := Q8.below l Q8.lt
        clear l
        refine heldL_one 3 (by kernel_rfl) ?z734
        case z734 =>
          have hc := make_any' F' I' E' C' U' AM' AD' AW' AP' cM' cD' cW' cP' lm' ld' lw' lp' u3 (hY.below lz)
          have hx := fun ops Q S fuel listed d a i h1 h2 h3 => cont_call (P := Tryz.prog) (ops := ops) (Q := Q) (S := S) (fuel := fuel) (listed := listed) (a := a) (w := u3) i d h1 h2 h3 hc
          refine hx _ _ _ _ _ 32 _ 3 ?z738 ?z739 ?z735 ?z737 ?z736
          case z738 => kernel_rfl
          case z739 => (rw [hs]; decide)
          case z735 => exact frY rfl (c_Make rfl rfl (ev_tmp h31))
          case z737 => (rintro _ _ ⟨_, _, _, _, _, _, _, _, _, _, _, rfl, _, l⟩; exact lz.trans (l.mono lz.size))
          case z736 =>
          clear hx hc
          rintro _ u4 a ⟨B1, B2, B3, B4, d1, d2, d3, d4, sD, sW, sP, rfl, Fq, l⟩ F0
          replace hs := F0.z.trans hs
          replace hd := F0.e.trans hd
          replace h3 := (F0.n 3 (by decide)).trans h3
          replace h4 := (F0.n 4 (by decide)).trans h4
          replace h29 := (F0.n 29 (by decide)).trans h29
          replace h31 := (F0.n 31 (by decide)).trans h31
          replace h8 := (F0.n 8 (by decide)).trans h8
          replace h30 := (F0.n 30 (by decide)).trans h30
          replace h7 := (F0.n 7 (by decide)).trans h7
          have h32 := F0.s
          clear F0
          have tq0 := fun g hg => (Fq.oM.lt g hg).2
          have tq1 := fun g hg => (Fq.oD.lt g hg).2
          have tq2 := fun g hg => (Fq.oW.lt g hg).2
          have tq3 := fun g hg => (Fq.oP.lt g hg).2
          have hz3 := l.size
          replace lz := lz.trans (l.mono lz.size)
          replace Fp := Fp.below l
          replace Q7 := Q7.below l Q7.lt
          replace Q8 := Q8.below l Q8.lt
          clear l
          have z0 := lz0.size
          have e6 := exc_setRow u4 (u2.heap.size) #[.int .i64 (F.tmod 4), .int .i64 (Mk.iv I), .int .i64 (Mk.cnt E C), .int .i64 (Mk.unt E U), .slice A1 (Mk.mon lm).length c1, .slice A2 (Mk.D F ld).length c2, .slice A3 ((Mk.W F lw).map (·.1)).length c3, .slice A4 (Mk.P F lm ld lw lp).length c4]
          have c13 := Q7.setRow (cs := #[.int .i64 (F.tmod 4), .int .i64 (Mk.iv I), .int .i64 (Mk.cnt E C), .int .i64 (Mk.unt E U), .slice A1 (Mk.mon lm).length c1, .slice A2 (Mk.D F ld).length c2, .slice A3 ((Mk.W F lw).map (·.1)).length c3, .slice A4 (Mk.P F lm ld lw lp).length c4])
          have c14 := Q8.exc (e6 u4.heap.size) Q8.lt (by omega)
          have Gp := Fp.exc (e6 u4.heap.size) (by omega) tp0 tp1 tp2 tp3
          have Gq := Fq.exc (e6 u4.heap.size) (by omega) tq0 tq1 tq2 tq3
          refine heldL_store 6 (w' := u4.setRow (u2.heap.size) #[.int .i64 (F.tmod 4), .int .i64 (Mk.iv I), .int .i64 (Mk.cnt E C), .int .i64 (Mk.unt E U), .slice A1 (Mk.mon lm).length c1, .slice A2 (Mk.D F ld).length c2, .slice A3 ((Mk.W F lw).map (·.1)).length c3, .slice A4 (Mk.P F lm ld lw lp).length c4]) (by kernel_rfl) (by kernel_rfl) ?z740 (lz.trans ((e6 w.heap.size).below (by omega))) ?z741
          case z740 => exact frY rfl (k_storeR rfl (ev_tmp h7) (ev_tmp h30) Q7 rfl rfl (by simp [Value.oneCell']))
          case z741 =>
          have e7 := exc_setRow (u4.setRow (u2.heap.size) #[.int .i64 (F.tmod 4), .int .i64 (Mk.iv I), .int .i64 (Mk.cnt E C), .int .i64 (Mk.unt E U), .slice A1 (Mk.mon lm).length c1, .slice A2 (Mk.D F ld).length c2, .slice A3 ((Mk.W F lw).map (·.1)).length c3, .slice A4 (Mk.P F lm ld lw lp).length c4]) (u0.heap.size) #[.int .i64 (F'.tmod 4), .int .i64 (Mk.iv I'), .int .i64 (Mk.cnt E' C'), .int .i64 (Mk.unt E' U'), .slice B1 (Mk.mon lm').length d1, .slice B2 (Mk.D F' ld').length d2, .slice B3 ((Mk.W F' lw').map (·.1)).length d3, .slice B4 (Mk.P F' lm' ld' lw' lp').length d4]
          have g14 := c14.setRow (cs := #[.int .i64 (F'.tmod 4), .int .i64 (Mk.iv I'), .int .i64 (Mk.cnt E' C'), .int .i64 (Mk.unt E' U'), .slice B1 (Mk.mon lm').length d1, .slice B2 (Mk.D F' ld').length d2, .slice B3 ((Mk.W F' lw').map (·.1)).length d3, .slice B4 (Mk.P F' lm' ld' lw' lp').length d4])
          have g13 := c13.exc (e7 _) c13.lt (by omega)
          have Hp := (Gp.exc (e7 _) (by omega) tp0 tp1 tp2 tp3).plain
          have Hq := (Gq.exc (e7 _) (by omega) tq0 tq1 tq2 tq3).plain
          have lzz := (lz.trans ((e6 w.heap.size).below (by omega))).trans ((e7 w.heap.size).below (by omega))
          refine heldL_store 7 (w' := (u4.setRow (u2.heap.size) #[.int .i64 (F.tmod 4), .int .i64 (Mk.iv I), .int .i64 (Mk.cnt E C), .int .i64 (Mk.unt E U), .slice A1 (Mk.mon lm).length c1, .slice A2 (Mk.D F ld).length c2, .slice A3 ((Mk.W F lw).map (·.1)).length c3, .slice A4 (Mk.P F lm ld lw lp).length c4]).setRow (u0.heap.size) #[.int .i64 (F'.tmod 4), .int .i64 (Mk.iv I'), .int .i64 (Mk.cnt E' C'), .int .i64 (Mk.unt E' U'), .slice B1 (Mk.mon lm').length d1, .slice B2 (Mk.D F' ld').length d2, .slice B3 ((Mk.W F' lw').map (·.1)).length d3, .slice B4 (Mk.P F' lm' ld' lw' lp').length d4]) (by kernel_rfl) (by kernel_rfl) ?z742 lzz ?z743
          case z742 => exact frY rfl (k_storeR rfl (ev_tmp h8) (ev_tmp h32) c14 rfl rfl (by simp [Value.oneCell']))
          case z743 =>
          refine wpAnyH_done (by kernel_rfl) ?_ _
          exact hR a _ _ _ A1 A2 A3 A4 B1 B2 B3 B4 c1 c2 c3 c4 d1 d2 d3 d4 hs hd h7 h8 g13 g14 Hp Hq lzz
    case z706 =>
      refine cont_val 4 7 (v := .pointer (some ⟨u1.heap.size, 0, none⟩)) (w' := u1.alloc (.cells #[.int .i64 0, .int .i64 0, .int .i64 0, .int .i64 0, .slice none 0 0, .slice none 0 0, .slice none 0 0, .slice none 0 0] 36)) (by kernel_rfl) (frZ hs) ?z744 (lz.trans (((Below.refl _ _).alloc (Nat.le_refl _) _).mono lz.size)) ?z745
      case z744 => exact frY rfl (k_allocR rfl)
      case z745 =>
      refine frN5 hs hd h3 h4 h29 h31 h8 ?_; clear hs hd h3 h4 h29 h31 h8; intro a hs hd h3 h4 h29 h31 h8 h7
      obtain ⟨u2, hwn⟩ : ∃ wn, wn = u1.alloc (.cells #[.int .i64 0, .int .i64 0, .int .i64 0, .int .i64 0, .slice none 0 0, .slice none 0 0, .slice none 0 0, .slice none 0 0] 36) := ⟨_, rfl⟩
      rw [← hwn]
      have qn : Blk u2 u1.heap.size 36 #[.int .i64 0, .int .i64 0, .int .i64 0, .int .i64 0, .slice none 0 0, .slice none 0 0, .slice none 0 0, .slice none 0 0] := by rw [hwn]; exact Blk.alloc _ _ _
      have ln : Below u1.heap.size u1 u2 := by rw [hwn]; exact (Below.refl _ _).alloc (Nat.le_refl _) _
      clear hwn
      have l := ln
      clear ln
      have hz1 := qn.lt
      have Q7 := qn
      clear qn
      replace lz := lz.trans (l.mono lz.size)
      replace Q8 := Q8.below l Q8.lt
      clear l
      refine heldL_one 1 (by kernel_rfl) ?z749
      case z749 =>
        have hc := make_any' F I E C U AM AD AW AP cM cD cW cP lm ld lw lp u2 (hX.below lz)
        have hx := fun ops Q S fuel listed d a i h1 h2 h3 => cont_call (P := Tryz.prog) (ops := ops) (Q := Q) (S := S) (fuel := fuel) (listed := listed) (a := a) (w := u2) i d h1 h2 h3 hc
        refine hx _ _ _ _ _ 30 _ 1 ?z753 ?z754 ?z750 ?z752 ?z751
        case z753 => kernel_rfl
        case z754 => (rw [hs]; decide)
        case z750 => exact frY rfl (c_Make rfl rfl (ev_tmp h29))
        case z752 => (rintro _ _ ⟨_, _, _, _, _, _, _, _, _, _, _, rfl, _, l⟩; exact lz.trans (l.mono lz.size))
        case z751 =>
        clear hx hc
        rintro _ u3 a ⟨A1, A2, A3, A4, c1, c2, c3, c4, tD, tW, tP, rfl, Fp, l⟩ F0
        replace hs := F0.z.trans hs
        replace hd := F0.e.trans hd
        replace h3 := (F0.n 3 (by decide)).trans h3
        replace h4 := (F0.n 4 (by decide)).trans h4
        replace h29 := (F0.n 29 (by decide)).trans h29
        replace h31 := (F0.n 31 (by decide)).trans h31
        replace h8 := (F0.n 8 (by decide)).trans h8
        replace h7 := (F0.n 7 (by decide)).trans h7
        have h30 := F0.s
        clear F0
        have tp0 := fun g hg => (Fp.oM.lt g hg).2
        have tp1 := fun g hg => (Fp.oD.lt g hg).2
        have tp2 := fun g hg => (Fp.oW.lt g hg).2
        have tp3 := fun g hg => (Fp.oP.lt g hg).2
        have hz2 := l.size
        replace lz := lz.trans (l.mono lz.size)
        replace Q7 := Q7.below l Q7.lt
        replace Q8 := Q8.below l Q8.lt
        clear l
        refine heldL_one 3 (by kernel_rfl) ?z755
        case z755 =>
          have hc := make_any' F' I' E' C' U' AM' AD' AW' AP' cM' cD' cW' cP' lm' ld' lw' lp' u3 (hY.below lz)
          have hx := fun ops Q S fuel listed d a i h1 h2 h3 => cont_call (P := Tryz.prog) (ops := ops) (Q := Q) (S := S) (fuel := fuel) (listed := listed) (a := a) (w := u3) i d h1 h2 h3 hc
          refine hx _ _ _ _ _ 32 _ 3 ?z759 ?z760 ?z756 ?z758 ?z757
          case z759 => kernel_rfl
          case z760 => (rw [hs]; decide)
          case z756 => exact frY rfl (c_Make rfl rfl (ev_tmp h31))
          case z758 => (rintro _ _ ⟨_, _, _, _, _, _, _, _, _, _, _, rfl, _, l⟩; exact lz.trans (l.mono lz.size))
          case z757 =>
          clear hx hc
          rintro _ u4 a ⟨B1, B2, B3, B4, d1, d2, d3, d4, sD, sW, sP, rfl, Fq, l⟩ F0
          replace hs := F0.z.trans hs
          replace hd := F0.e.trans hd
          replace h3 := (F0.n 3 (by decide)).trans h3
          replace h4 := (F0.n 4 (by decide)).trans h4
          replace h29 := (F0.n 29 (by decide)).trans h29
          replace h31 := (F0.n 31 (by decide)).trans h31
          replace h8 := (F0.n 8 (by decide)).trans h8
          replace h7 := (F0.n 7 (by decide)).trans h7
          replace h30 := (F0.n 30 (by decide)).trans h30
          have h32 := F0.s
          clear F0
          have tq0 := fun g hg => (Fq.oM.lt g hg).2
          have tq1 := fun g hg => (Fq.oD.lt g hg).2
          have tq2 := fun g hg => (Fq.oW.lt g hg).2
          have tq3 := fun g hg => (Fq.oP.lt g hg).2
          have hz3 := l.size
          replace lz := lz.trans (l.mono lz.size)
          replace Fp := Fp.below l
          replace Q7 := Q7.below l Q7.lt
          replace Q8 := Q8.below l Q8.lt
          clear l
          have z0 := lz0.size
          have e6 := exc_setRow u4 (u1.heap.size) #[.int .i64 (F.tmod 4), .int .i64 (Mk.iv I), .int .i64 (Mk.cnt E C), .int .i64 (Mk.unt E U), .slice A1 (Mk.mon lm).length c1, .slice A2 (Mk.D F ld).length c2, .slice A3 ((Mk.W F lw).map (·.1)).length c3, .slice A4 (Mk.P F lm ld lw lp).length c4]
          have c13 := Q7.setRow (cs := #[.int .i64 (F.tmod 4), .int .i64 (Mk.iv I), .int .i64 (Mk.cnt E C), .int .i64 (Mk.unt E U), .slice A1 (Mk.mon lm).length c1, .slice A2 (Mk.D F ld).length c2, .slice A3 ((Mk.W F lw).map (·.1)).length c3, .slice A4 (Mk.P F lm ld lw lp).length c4])
          have c14 := Q8.exc (e6 u4.heap.size) Q8.lt (by omega)
          have Gp := Fp.exc (e6 u4.heap.size) (by omega) tp0 tp1 tp2 tp3
          have Gq := Fq.exc (e6 u4.heap.size) (by omega) tq0 tq1 tq2 tq3
          refine heldL_store 6 (w' := u4.setRow (u1.heap.size) #[.int .i64 (F.tmod 4), .int .i64 (Mk.iv I), .int .i64 (Mk.cnt E C), .int .i64 (Mk.unt E U), .slice A1 (Mk.mon lm).length c1, .slice A2 (Mk.D F ld).length c2, .slice A3 ((Mk.W F lw).map (·.1)).length c3, .slice A4 (Mk.P F lm ld lw lp).length c4]) (by kernel_rfl) (by kernel_rfl) ?z761 (lz.trans ((e6 w.heap.size).below (by omega))) ?z762
          case z761 => exact frY rfl (k_storeR rfl (ev_tmp h7) (ev_tmp h30) Q7 rfl rfl (by simp [Value.oneCell']))
          case z762 =>
          have e7 := exc_setRow (u4.setRow (u1.heap.size) #[.int .i64 (F.tmod 4), .int .i64 (Mk.iv I), .int .i64 (Mk.cnt E C), .int .i64 (Mk.unt E U), .slice A1 (Mk.mon lm).length c1, .slice A2 (Mk.D F ld).length c2, .slice A3 ((Mk.W F lw).map (·.1)).length c3, .slice A4 (Mk.P F lm ld lw lp).length c4]) (u0.heap.size) #[.int .i64 (F'.tmod 4), .int .i64 (Mk.iv I'), .int .i64 (Mk.cnt E' C'), .int .i64 (Mk.unt E' U'), .slice B1 (Mk.mon lm').length d1, .slice B2 (Mk.D F' ld').length d2, .slice B3 ((Mk.W F' lw').map (·.1)).length d3, .slice B4 (Mk.P F' lm' ld' lw' lp').length d4]
          have g14 := c14.setRow (cs := #[.int .i64 (F'.tmod 4), .int .i64 (Mk.iv I'), .int .i64 (Mk.cnt E' C'), .int .i64 (Mk.unt E' U'), .slice B1 (Mk.mon lm').length d1, .slice B2 (Mk.D F' ld').length d2, .slice B3 ((Mk.W F' lw').map (·.1)).length d3, .slice B4 (Mk.P F' lm' ld' lw' lp').length d4])
          have g13 := c13.exc (e7 _) c13.lt (by omega)
          have Hp := (Gp.exc (e7 _) (by omega) tp0 tp1 tp2 tp3).plain
          have Hq := (Gq.exc (e7 _) (by omega) tq0 tq1 tq2 tq3).plain
          have lzz := (lz.trans ((e6 w.heap.size).below (by omega))).trans ((e7 w.heap.size).below (by omega))
          refine heldL_store 7 (w' := (u4.setRow (u1.heap.size) #[.int .i64 (F.tmod 4), .int .i64 (Mk.iv I), .int .i64 (Mk.cnt E C), .int .i64 (Mk.unt E U), .slice A1 (Mk.mon lm).length c1, .slice A2 (Mk.D F ld).length c2, .slice A3 ((Mk.W F lw).map (·.1)).length c3, .slice A4 (Mk.P F lm ld lw lp).length c4]).setRow (u0.heap.size) #[.int .i64 (F'.tmod 4), .int .i64 (Mk.iv I'), .int .i64 (Mk.cnt E' C'), .int .i64 (Mk.unt E' U'), .slice B1 (Mk.mon lm').length d1, .slice B2 (Mk.D F' ld').length d2, .slice B3 ((Mk.W F' lw').map (·.1)).length d3, .slice B4 (Mk.P F' lm' ld' lw' lp').length d4]) (by kernel_rfl) (by kernel_rfl) ?z763 lzz ?z764
          case z763 => exact frY rfl (k_storeR rfl (ev_tmp h8) (ev_tmp h32) c14 rfl rfl (by simp [Value.oneCell']))
          case z764 =>
          refine wpAnyH_done (by kernel_rfl) ?_ _
          exact hR a _ _ _ A1 A2 A3 A4 B1 B2 B3 B4 c1 c2 c3 c4 d1 d2 d3 d4 hs hd h7 h8 g13 g14 Hp Hq lzz

noncomputable def ap9 : Array Oper := (Tryz.f3.body.bind (regOf 9)).getD #[]
set_option maxRecDepth 100000 in
set_option maxHeartbeats 2000000 in
theorem regAp9 (a : Act) (w : World) (Q : Exit → Act → World → Prop) (hQ : Blind Q) (bp bq : Nat) (f iv c u f' iv' c' u' : Int) (A1 A2 A3 A4 B1 B2 B3 B4 : Option Addr) (c1 c2 c3 c4 d1 d2 d3 d4 : Nat) (M D M' D' : List Int) (K K' : List (Int × Int)) (P P' : List Int) (t t' : List UInt8) (df : List _) (hd : a.defers = df) (hs : a.tmps.size = 42) (h7 : a.tmps.getD 7 undef = .pointer (some ⟨bp, 0, none⟩)) (h8 : a.tmps.getD 8 undef = .pointer (some ⟨bq, 0, none⟩)) (hT : Tabs w)
    (Bp : Blk w bp 36 #[.int .i64 f, .int .i64 iv, .int .i64 c, .int .i64 u, .slice A1 M.length c1, .slice A2 D.length c2, .slice A3 K.length c3, .slice A4 P.length c4]) (Bq : Blk w bq 36 #[.int .i64 f', .int .i64 iv', .int .i64 c', .int .i64 u', .slice B1 M'.length d1, .slice B2 D'.length d2, .slice B3 K'.length d3, .slice B4 P'.length d4]) (hA : PlainR w A1 A2 A3 A4 M D K P) (hB : PlainR w B1 B2 B3 B4 M' D' K' P') (hp : Okay f iv c u t M D K P) (hq : Okay f' iv' c' u' t' M' D' K' P') (hcp : Rul.check f iv c u M D K P = 0) (hcq : Rul.check f' iv' c' u' M' D' K' P' = 0)
    (hR : ∀ (a' : Act) (w' : World), a'.defers = df → a'.tmps.getD 6 undef = .bool true → Below w.heap.size w w' → Q .normal a' w') :
    (Code.region 9 ap9 true).wp Tryz.prog Q a w := by
  conv => arg 2; arg 2; whnf
  refine wp_region_held_drew (S := fun w' => Below w.heap.size w w') (by kernel_rfl) (below_drew (Below.refl _ _)) (fun hH => ?_)
  obtain ⟨u0, hu⟩ : ∃ u0, u0 = w.drew := ⟨_, rfl⟩
  rw [← hu] at hH ⊢
  clear hu
  refine heldL 0 33 (v := .agg #[.int .i64 f, .int .i64 iv, .int .i64 c, .int .i64 u, .slice A1 M.length c1, .slice A2 D.length c2, .slice A3 K.length c3, .slice A4 P.length c4]) hQ (by kernel_rfl) (frZ hs) (by kernel_rfl) (by kernel_rfl) (by kernel_rfl) hH ?z765 ?z766
  case z765 => (intro o ho; obtain rfl := Option.some.inj ho; exact Or.inl ⟨rfl, fun w1 h1w => k_loadR rfl (ev_tmp h7) (Bp.below h1w Bp.lt).rule⟩)
  case z766 =>
  refine frN2 hs hd h7 h8 ?_; clear hs hd h7 h8; intro a hs hd h7 h8 h33
  refine heldL 2 35 (v := .agg #[.int .i64 f', .int .i64 iv', .int .i64 c', .int .i64 u', .slice B1 M'.length d1, .slice B2 D'.length d2, .slice B3 K'.length d3, .slice B4 P'.length d4]) hQ (by kernel_rfl) (frZ hs) (by kernel_rfl) (by kernel_rfl) (by kernel_rfl) hH ?z767 ?z768
  case z767 => (intro o ho; obtain rfl := Option.some.inj ho; exact Or.inl ⟨rfl, fun w1 h1w => k_loadR rfl (ev_tmp h8) (Bq.below h1w Bq.lt).rule⟩)
  case z768 =>
  refine frN3 hs hd h7 h8 h33 ?_; clear hs hd h7 h8 h33; intro a hs hd h7 h8 h33 h35
  refine heldL 5 38 (v := .agg #[.int .i64 f, .int .i64 iv, .int .i64 c, .int .i64 u, .slice A1 M.length c1, .slice A2 D.length c2, .slice A3 K.length c3, .slice A4 P.length c4]) hQ (by kernel_rfl) (frZ hs) (by kernel_rfl) (by kernel_rfl) (by kernel_rfl) hH ?z769 ?z770
  case z769 => (intro o ho; obtain rfl := Option.some.inj ho; exact Or.inl ⟨rfl, fun w1 h1w => k_loadR rfl (ev_tmp h7) (Bp.below h1w Bp.lt).rule⟩)
  case z770 =>
  refine frN4 hs hd h7 h8 h33 h35 ?_; clear hs hd h7 h8 h33 h35; intro a hs hd h7 h8 h33 h35 h38
  refine heldL 6 39 (v := .agg #[.int .i64 f', .int .i64 iv', .int .i64 c', .int .i64 u', .slice B1 M'.length d1, .slice B2 D'.length d2, .slice B3 K'.length d3, .slice B4 P'.length d4]) hQ (by kernel_rfl) (frZ hs) (by kernel_rfl) (by kernel_rfl) (by kernel_rfl) hH ?z771 ?z772
  case z771 => (intro o ho; obtain rfl := Option.some.inj ho; exact Or.inl ⟨rfl, fun w1 h1w => k_loadR rfl (ev_tmp h8) (Bq.below h1w Bq.lt).rule⟩)
  case z772 =>
  refine frN5 hs hd h7 h8 h33 h35 h38 ?_; clear hs hd h7 h8 h33 h35 h38; intro a hs hd h7 h8 h33 h35 h38 h39
  have hc := print_any f iv c u t A1 A2 A3 A4 c1 c2 c3 c4 M D K P u0 (hT.below hH) (hA.below hH).lists hp hcp
  have hx := fun ops Q S fuel listed d a i h0 h1 h2 h3 => heldL_call (P := Tryz.prog) (ops := ops) (Q := Q) (S := S) (fuel := fuel) (listed := listed) (a := a) (w := u0) i d h0 h1 h2 h3 hc
  refine hx _ _ _ _ _ 34 _ 1 ?z773 ?z774 ?z775 ?z776 ?z777 ?z778
  case z773 => kernel_rfl
  case z774 => kernel_rfl
  case z775 => (rw [hs]; decide)
  case z776 => exact frY rfl (c_Print rfl rfl (ev_tmp h33))
  case z777 => (rintro _ _ ⟨rfl, l⟩; exact hH.trans (l.mono hH.size))
  case z778 =>
  clear hx hc
  rintro _ u1 a ⟨rfl, l⟩ F0
  replace hs := F0.z.trans hs
  replace hd := F0.e.trans hd
  replace h7 := (F0.n 7 (by decide)).trans h7
  replace h8 := (F0.n 8 (by decide)).trans h8
  replace h33 := (F0.n 33 (by decide)).trans h33
  replace h35 := (F0.n 35 (by decide)).trans h35
  replace h38 := (F0.n 38 (by decide)).trans h38
  replace h39 := (F0.n 39 (by decide)).trans h39
  have h34 := F0.s
  clear F0
  replace hH := hH.trans (l.mono hH.size)
  clear l
  have hc := print_any f' iv' c' u' t' B1 B2 B3 B4 d1 d2 d3 d4 M' D' K' P' u1 (hT.below hH) (hB.below hH).lists hq hcq
  have hx := fun ops Q S fuel listed d a i h0 h1 h2 h3 => heldL_call (P := Tryz.prog) (ops := ops) (Q := Q) (S := S) (fuel := fuel) (listed := listed) (a := a) (w := u1) i d h0 h1 h2 h3 hc
  refine hx _ _ _ _ _ 36 _ 3 ?z779 ?z780 ?z781 ?z782 ?z783 ?z784
  case z779 => kernel_rfl
  case z780 => kernel_rfl
  case z781 => (rw [hs]; decide)
  case z782 => exact frY rfl (c_Print rfl rfl (ev_tmp h35))
  case z783 => (rintro _ _ ⟨rfl, l⟩; exact hH.trans (l.mono hH.size))
  case z784 =>
  clear hx hc
  rintro _ u2 a ⟨rfl, l⟩ F0
  replace hs := F0.z.trans hs
  replace hd := F0.e.trans hd
  replace h7 := (F0.n 7 (by decide)).trans h7
  replace h8 := (F0.n 8 (by decide)).trans h8
  replace h33 := (F0.n 33 (by decide)).trans h33
  replace h35 := (F0.n 35 (by decide)).trans h35
  replace h38 := (F0.n 38 (by decide)).trans h38
  replace h39 := (F0.n 39 (by decide)).trans h39
  replace h34 := (F0.n 34 (by decide)).trans h34
  have h36 := F0.s
  clear F0
  replace hH := hH.trans (l.mono hH.size)
  clear l
  refine heldL 4 37 (v := .bool ((Rfc.text f iv c t M D K P) == (Rfc.text f' iv' c' t' M' D' K' P'))) hQ (by kernel_rfl) (frZ hs) (by kernel_rfl) (by kernel_rfl) (by kernel_rfl) hH ?z785 ?z786
  case z785 => (intro o ho; obtain rfl := Option.some.inj ho; exact Or.inl ⟨rfl, fun w1 h1w => o_eqStr rfl (ev_tmp h34) (ev_tmp h36) (by rw [ba_list, ba_list])⟩)
  case z786 =>
  refine frN8 hs hd h7 h8 h33 h35 h38 h39 h34 h36 ?_; clear hs hd h7 h8 h33 h35 h38 h39 h34 h36; intro a hs hd h7 h8 h33 h35 h38 h39 h34 h36 h37
  have hc := same_any f iv c u f' iv' c' u' A1 A2 A3 A4 B1 B2 B3 B4 c1 c2 c3 c4 d1 d2 d3 d4 M D M' D' K K' P P' u2 (hA.below hH) (hB.below hH)
  have hx := fun ops Q S fuel listed d a i h0 h1 h2 h3 => heldL_call (P := Tryz.prog) (ops := ops) (Q := Q) (S := S) (fuel := fuel) (listed := listed) (a := a) (w := u2) i d h0 h1 h2 h3 hc
  refine hx _ _ _ _ _ 40 _ 7 ?z787 ?z788 ?z789 ?z790 ?z791 ?z792
  case z787 => kernel_rfl
  case z788 => kernel_rfl
  case z789 => (rw [hs]; decide)
  case z790 => exact frY rfl (c_Same rfl rfl (ev_tmp h38) (ev_tmp h39))
  case z791 => (rintro _ _ ⟨rfl, l⟩; exact hH.trans (l.mono hH.size))
  case z792 =>
  clear hx hc
  rintro _ u3 a ⟨rfl, l⟩ F0
  replace hs := F0.z.trans hs
  replace hd := F0.e.trans hd
  replace h7 := (F0.n 7 (by decide)).trans h7
  replace h8 := (F0.n 8 (by decide)).trans h8
  replace h33 := (F0.n 33 (by decide)).trans h33
  replace h35 := (F0.n 35 (by decide)).trans h35
  replace h38 := (F0.n 38 (by decide)).trans h38
  replace h39 := (F0.n 39 (by decide)).trans h39
  replace h34 := (F0.n 34 (by decide)).trans h34
  replace h36 := (F0.n 36 (by decide)).trans h36
  replace h37 := (F0.n 37 (by decide)).trans h37
  have h40 := F0.s
  clear F0
  replace hH := hH.trans (l.mono hH.size)
  clear l
  refine heldL 8 41 (v := .bool true) hQ (by kernel_rfl) (frZ hs) (by kernel_rfl) (by kernel_rfl) (by kernel_rfl) hH ?z793 ?z794
  case z793 => (intro o ho; obtain rfl := Option.some.inj ho; exact Or.inl ⟨rfl, fun w1 h1w => o_eqBool rfl (ev_tmp h37) (ev_tmp h40) (by rw [same_text hp hq]; simp)⟩)
  case z794 =>
  refine frN10 hs hd h7 h8 h33 h35 h38 h39 h34 h36 h37 h40 ?_; clear hs hd h7 h8 h33 h35 h38 h39 h34 h36 h37 h40; intro a hs hd h7 h8 h33 h35 h38 h39 h34 h36 h37 h40 h41
  refine heldL 9 6 (v := .bool true) hQ (by kernel_rfl) (frZ hs) (by kernel_rfl) (by kernel_rfl) (by kernel_rfl) hH ?z795 ?z796
  case z795 => (intro o ho; obtain rfl := Option.some.inj ho; exact Or.inl ⟨rfl, fun w1 h1w => k_assign rfl (ev_tmp h41)⟩)
  case z796 =>
  refine frN11 hs hd h7 h8 h33 h35 h38 h39 h34 h36 h37 h40 h41 ?_; clear hs hd h7 h8 h33 h35 h38 h39 h34 h36 h37 h40 h41; intro a hs hd h7 h8 h33 h35 h38 h39 h34 h36 h37 h40 h41 h6
  refine wpAnyH_done (by kernel_rfl) ?_ _
  exact hR a _ hd h6 hH
end Go.Proofs.YtfliehkmncbpnaaGreatDoor
