/-
  The law RuleOrders: both rules made, in whatever order.
-/
import Derived.Test.YtfhhlebadmkckaaDoorOrd1
namespace Go.Proofs.YtfhhlebadmkckaaDoor
open Go.RowKit
theorem Four.plain {w : World} {n0 : Nat} {A1 A2 A3 A4 : Option Addr} {c1 c2 c3 c4 : Nat} {M D : List Int} {K : List (Int × Int)} {P : List Int} {tD tW tP : Nat} (h : Four w n0 A1 A2 A3 A4 c1 c2 c3 c4 M D K P tD tW tP) : PlainR w A1 A2 A3 A4 M D K P :=
  ⟨h.oM.plain, h.oD.plain, h.oW.plain, h.oP.plain, h.lists.lm, h.lists.ld, h.lists.lk, h.lists.lp⟩
noncomputable def ord12 : Array Oper := (Tryd.f3.body.bind (regOf 12)).getD #[]
set_option maxRecDepth 100000 in
set_option maxHeartbeats 2000000 in
theorem regOrd12 (a : Act) (w : World) (Q : Exit → Act → World → Prop) (hQ : Blind Q) (b5 b6 b7 b8 : Nat) (F I E C U : Int) (AM AD AW AP : Option Addr) (cM cD cW cP : Nat) (lm ld : List Int) (lw : List (Int × Int)) (lp : List Int) (F' I' E' C' U' : Int) (AM' AD' AW' AP' : Option Addr) (cM' cD' cW' cP' : Nat) (lm' ld' : List Int) (lw' : List (Int × Int)) (lp' : List Int) (q11 q12 : Value) (df : List _) (hd : a.defers = df) (hs : a.tmps.size = 148) (h5 : a.tmps.getD 5 undef = .pointer (some ⟨b5, 0, none⟩)) (h6 : a.tmps.getD 6 undef = .pointer (some ⟨b6, 0, none⟩)) (h7 : a.tmps.getD 7 undef = .pointer (some ⟨b7, 0, none⟩)) (h8 : a.tmps.getD 8 undef = .pointer (some ⟨b8, 0, none⟩)) (h11 : a.tmps.getD 11 undef = q11) (h12 : a.tmps.getD 12 undef = q12)
    (B7 : Blk w b7 31 #[.int .u8 F, .int .u8 I, .int .u8 E, .int .u16 C, .int .u32 U, .slice AM lm.length cM, .slice AD ld.length cD, .slice AW lw.length cW, .slice AP lp.length cP]) (B8 : Blk w b8 31 #[.int .u8 F', .int .u8 I', .int .u8 E', .int .u16 C', .int .u32 U', .slice AM' lm'.length cM', .slice AD' ld'.length cD', .slice AW' lw'.length cW', .slice AP' lp'.length cP']) (hX : XIn w F I E C U AM AD AW AP lm ld lw lp) (hY : XIn w F' I' E' C' U' AM' AD' AW' AP' lm' ld' lw' lp')
    (hR : ∀ (a' : Act) (w' : World) (bp bq : Nat) (A1 A2 A3 A4 B1 B2 B3 B4 : Option Addr) (c1 c2 c3 c4 d1 d2 d3 d4 : Nat), a'.tmps.size = 148 → a'.defers = df → a'.tmps.getD 5 undef = .pointer (some ⟨b5, 0, none⟩) → a'.tmps.getD 6 undef = .pointer (some ⟨b6, 0, none⟩) → a'.tmps.getD 7 undef = .pointer (some ⟨b7, 0, none⟩) → a'.tmps.getD 11 undef = q11 → a'.tmps.getD 12 undef = q12 → a'.tmps.getD 13 undef = .pointer (some ⟨bp, 0, none⟩) → a'.tmps.getD 14 undef = .pointer (some ⟨bq, 0, none⟩) → Blk w' bp 39 #[.int .i64 (F.tmod 4), .int .i64 (Mk.iv I), .int .i64 (Mk.cnt E C), .int .i64 (Mk.unt E U), .slice A1 (Mk.mon lm).length c1, .slice A2 (Mk.D F ld).length c2, .slice A3 ((Mk.W F lw).map (·.1)).length c3, .slice A4 (Mk.P F lm ld lw lp).length c4] → Blk w' bq 39 #[.int .i64 (F'.tmod 4), .int .i64 (Mk.iv I'), .int .i64 (Mk.cnt E' C'), .int .i64 (Mk.unt E' U'), .slice B1 (Mk.mon lm').length d1, .slice B2 (Mk.D F' ld').length d2, .slice B3 ((Mk.W F' lw').map (·.1)).length d3, .slice B4 (Mk.P F' lm' ld' lw' lp').length d4] → PlainR w' A1 A2 A3 A4 (Mk.mon lm) (Mk.D F ld) ((Mk.W F lw).map (·.1)) (Mk.P F lm ld lw lp) → PlainR w' B1 B2 B3 B4 (Mk.mon lm') (Mk.D F' ld') ((Mk.W F' lw').map (·.1)) (Mk.P F' lm' ld' lw' lp') → Below w.heap.size w w' → Q .normal a' w') :
    (Code.region 12 ord12 true).wp Tryd.prog Q a w := by
  conv => arg 2; arg 2; whnf
  refine wp_region_held_drew (S := fun w' => Below w.heap.size w w') (by kernel_rfl) (below_drew (Below.refl _ _)) (fun lz => ?_)
  obtain ⟨u0, hu⟩ : ∃ u0, u0 = w.drew := ⟨_, rfl⟩
  rw [← hu] at lz ⊢
  clear hu
  refine heldL 0 65 (v := .agg #[.int .u8 F, .int .u8 I, .int .u8 E, .int .u16 C, .int .u32 U, .slice AM lm.length cM, .slice AD ld.length cD, .slice AW lw.length cW, .slice AP lp.length cP]) hQ (by kernel_rfl) (by rw [hs]; decide) (by kernel_rfl) (by kernel_rfl) (by kernel_rfl) lz ?z133 ?z134
  case z133 => (intro o ho; obtain rfl := Option.some.inj ho; exact Or.inl ⟨rfl, fun w1 h1w => k_load9 rfl (ev_tmp h7) (B7.below h1w B7.lt)⟩)
  case z134 =>
  intro a F0
  replace hs := F0.z.trans hs
  replace hd := F0.e.trans hd
  replace h5 := (F0.n 5 (by decide)).trans h5
  replace h6 := (F0.n 6 (by decide)).trans h6
  replace h7 := (F0.n 7 (by decide)).trans h7
  replace h8 := (F0.n 8 (by decide)).trans h8
  replace h11 := (F0.n 11 (by decide)).trans h11
  replace h12 := (F0.n 12 (by decide)).trans h12
  have h65 := F0.s
  clear F0
  refine heldL 2 67 (v := .agg #[.int .u8 F', .int .u8 I', .int .u8 E', .int .u16 C', .int .u32 U', .slice AM' lm'.length cM', .slice AD' ld'.length cD', .slice AW' lw'.length cW', .slice AP' lp'.length cP']) hQ (by kernel_rfl) (by rw [hs]; decide) (by kernel_rfl) (by kernel_rfl) (by kernel_rfl) lz ?z135 ?z136
  case z135 => (intro o ho; obtain rfl := Option.some.inj ho; exact Or.inl ⟨rfl, fun w1 h1w => k_load9 rfl (ev_tmp h8) (B8.below h1w B8.lt)⟩)
  case z136 =>
  intro a F0
  replace hs := F0.z.trans hs
  replace hd := F0.e.trans hd
  replace h5 := (F0.n 5 (by decide)).trans h5
  replace h6 := (F0.n 6 (by decide)).trans h6
  replace h7 := (F0.n 7 (by decide)).trans h7
  replace h8 := (F0.n 8 (by decide)).trans h8
  replace h11 := (F0.n 11 (by decide)).trans h11
  replace h12 := (F0.n 12 (by decide)).trans h12
  replace h65 := (F0.n 65 (by decide)).trans h65
  have h67 := F0.s
  clear F0
  have lz0 := lz
  refine heldL_three 1 4 5 (by kernel_rfl) ?z137 ?z138 ?z139
  case z137 =>
    have hc := make_any' F I E C U AM AD AW AP cM cD cW cP lm ld lw lp u0 (hX.below lz)
    have hx := fun ops Q S fuel listed d a i h1 h2 h3 => cont_call (P := Tryd.prog) (ops := ops) (Q := Q) (S := S) (fuel := fuel) (listed := listed) (a := a) (w := u0) i d h1 h2 h3 hc
    refine hx _ _ _ _ _ 66 _ 1 ?z143 ?z144 ?z140 ?z142 ?z141
    case z143 => kernel_rfl
    case z144 => (rw [hs]; decide)
    case z140 => (intro o ho; obtain rfl := Option.some.inj ho; exact ⟨rfl, c_Make rfl rfl (ev_tmp h65)⟩)
    case z142 => (rintro _ _ ⟨_, _, _, _, _, _, _, _, _, _, _, rfl, _, l⟩; exact lz.trans (l.mono lz.size))
    case z141 =>
    clear hx hc
    rintro _ u1 a ⟨A1, A2, A3, A4, c1, c2, c3, c4, tD, tW, tP, rfl, Fp, l⟩ F0
    replace hs := F0.z.trans hs
    replace hd := F0.e.trans hd
    replace h5 := (F0.n 5 (by decide)).trans h5
    replace h6 := (F0.n 6 (by decide)).trans h6
    replace h7 := (F0.n 7 (by decide)).trans h7
    replace h8 := (F0.n 8 (by decide)).trans h8
    replace h11 := (F0.n 11 (by decide)).trans h11
    replace h12 := (F0.n 12 (by decide)).trans h12
    replace h65 := (F0.n 65 (by decide)).trans h65
    replace h67 := (F0.n 67 (by decide)).trans h67
    have h66 := F0.s
    clear F0
    have tp0 := fun g hg => (Fp.oM.lt g hg).2
    have tp1 := fun g hg => (Fp.oD.lt g hg).2
    have tp2 := fun g hg => (Fp.oW.lt g hg).2
    have tp3 := fun g hg => (Fp.oP.lt g hg).2
    have hz0 := l.size
    replace lz := lz.trans (l.mono lz.size)
    clear l
    refine heldL_three 3 4 5 (by kernel_rfl) ?z145 ?z146 ?z147
    case z145 =>
      have hc := make_any' F' I' E' C' U' AM' AD' AW' AP' cM' cD' cW' cP' lm' ld' lw' lp' u1 (hY.below lz)
      have hx := fun ops Q S fuel listed d a i h1 h2 h3 => cont_call (P := Tryd.prog) (ops := ops) (Q := Q) (S := S) (fuel := fuel) (listed := listed) (a := a) (w := u1) i d h1 h2 h3 hc
      refine hx _ _ _ _ _ 68 _ 3 ?z151 ?z152 ?z148 ?z150 ?z149
      case z151 => kernel_rfl
      case z152 => (rw [hs]; decide)
      case z148 => (intro o ho; obtain rfl := Option.some.inj ho; exact ⟨rfl, c_Make rfl rfl (ev_tmp h67)⟩)
      case z150 => (rintro _ _ ⟨_, _, _, _, _, _, _, _, _, _, _, rfl, _, l⟩; exact lz.trans (l.mono lz.size))
      case z149 =>
      clear hx hc
      rintro _ u2 a ⟨B1, B2, B3, B4, d1, d2, d3, d4, sD, sW, sP, rfl, Fq, l⟩ F0
      replace hs := F0.z.trans hs
      replace hd := F0.e.trans hd
      replace h5 := (F0.n 5 (by decide)).trans h5
      replace h6 := (F0.n 6 (by decide)).trans h6
      replace h7 := (F0.n 7 (by decide)).trans h7
      replace h8 := (F0.n 8 (by decide)).trans h8
      replace h11 := (F0.n 11 (by decide)).trans h11
      replace h12 := (F0.n 12 (by decide)).trans h12
      replace h65 := (F0.n 65 (by decide)).trans h65
      replace h67 := (F0.n 67 (by decide)).trans h67
      replace h66 := (F0.n 66 (by decide)).trans h66
      have h68 := F0.s
      clear F0
      have tq0 := fun g hg => (Fq.oM.lt g hg).2
      have tq1 := fun g hg => (Fq.oD.lt g hg).2
      have tq2 := fun g hg => (Fq.oW.lt g hg).2
      have tq3 := fun g hg => (Fq.oP.lt g hg).2
      have hz1 := l.size
      replace lz := lz.trans (l.mono lz.size)
      replace Fp := Fp.below l
      clear l
      refine heldL_two 4 5 (by kernel_rfl) ?z153 ?z154
      case z153 =>
        refine cont_val 4 13 (v := .pointer (some ⟨u2.heap.size, 0, none⟩)) (w' := u2.alloc (.cells #[.int .i64 0, .int .i64 0, .int .i64 0, .int .i64 0, .slice none 0 0, .slice none 0 0, .slice none 0 0, .slice none 0 0] 39)) (by kernel_rfl) (by rw [hs]; decide) ?z155 (lz.trans (((Below.refl _ _).alloc (Nat.le_refl _) _).mono lz.size)) ?z156
        case z155 => (intro o ho; obtain rfl := Option.some.inj ho; exact ⟨rfl, k_allocR rfl⟩)
        case z156 =>
        intro a F0
        replace hs := F0.z.trans hs
        replace hd := F0.e.trans hd
        replace h5 := (F0.n 5 (by decide)).trans h5
        replace h6 := (F0.n 6 (by decide)).trans h6
        replace h7 := (F0.n 7 (by decide)).trans h7
        replace h8 := (F0.n 8 (by decide)).trans h8
        replace h11 := (F0.n 11 (by decide)).trans h11
        replace h12 := (F0.n 12 (by decide)).trans h12
        replace h65 := (F0.n 65 (by decide)).trans h65
        replace h67 := (F0.n 67 (by decide)).trans h67
        replace h66 := (F0.n 66 (by decide)).trans h66
        replace h68 := (F0.n 68 (by decide)).trans h68
        have h13 := F0.s
        clear F0
        obtain ⟨u3, hwn⟩ : ∃ wn, wn = u2.alloc (.cells #[.int .i64 0, .int .i64 0, .int .i64 0, .int .i64 0, .slice none 0 0, .slice none 0 0, .slice none 0 0, .slice none 0 0] 39) := ⟨_, rfl⟩
        rw [← hwn]
        have qn : Blk u3 u2.heap.size 39 #[.int .i64 0, .int .i64 0, .int .i64 0, .int .i64 0, .slice none 0 0, .slice none 0 0, .slice none 0 0, .slice none 0 0] := by rw [hwn]; exact Blk.alloc _ _ _
        have ln : Below u2.heap.size u2 u3 := by rw [hwn]; exact (Below.refl _ _).alloc (Nat.le_refl _) _
        clear hwn
        have l := ln
        clear ln
        have hz2 := qn.lt
        have Q13 := qn
        clear qn
        replace lz := lz.trans (l.mono lz.size)
        replace Fp := Fp.below l
        replace Fq := Fq.below l
        clear l
        refine heldL_one 5 (by kernel_rfl) ?z160
        case z160 =>
          refine cont_val 5 14 (v := .pointer (some ⟨u3.heap.size, 0, none⟩)) (w' := u3.alloc (.cells #[.int .i64 0, .int .i64 0, .int .i64 0, .int .i64 0, .slice none 0 0, .slice none 0 0, .slice none 0 0, .slice none 0 0] 39)) (by kernel_rfl) (by rw [hs]; decide) ?z161 (lz.trans (((Below.refl _ _).alloc (Nat.le_refl _) _).mono lz.size)) ?z162
          case z161 => (intro o ho; obtain rfl := Option.some.inj ho; exact ⟨rfl, k_allocR rfl⟩)
          case z162 =>
          intro a F0
          replace hs := F0.z.trans hs
          replace hd := F0.e.trans hd
          replace h5 := (F0.n 5 (by decide)).trans h5
          replace h6 := (F0.n 6 (by decide)).trans h6
          replace h7 := (F0.n 7 (by decide)).trans h7
          replace h8 := (F0.n 8 (by decide)).trans h8
          replace h11 := (F0.n 11 (by decide)).trans h11
          replace h12 := (F0.n 12 (by decide)).trans h12
          replace h65 := (F0.n 65 (by decide)).trans h65
          replace h67 := (F0.n 67 (by decide)).trans h67
          replace h66 := (F0.n 66 (by decide)).trans h66
          replace h68 := (F0.n 68 (by decide)).trans h68
          replace h13 := (F0.n 13 (by decide)).trans h13
          have h14 := F0.s
          clear F0
          obtain ⟨u4, hwn⟩ : ∃ wn, wn = u3.alloc (.cells #[.int .i64 0, .int .i64 0, .int .i64 0, .int .i64 0, .slice none 0 0, .slice none 0 0, .slice none 0 0, .slice none 0 0] 39) := ⟨_, rfl⟩
          rw [← hwn]
          have qn : Blk u4 u3.heap.size 39 #[.int .i64 0, .int .i64 0, .int .i64 0, .int .i64 0, .slice none 0 0, .slice none 0 0, .slice none 0 0, .slice none 0 0] := by rw [hwn]; exact Blk.alloc _ _ _
          have ln : Below u3.heap.size u3 u4 := by rw [hwn]; exact (Below.refl _ _).alloc (Nat.le_refl _) _
          clear hwn
          have l := ln
          clear ln
          have hz3 := qn.lt
          have Q14 := qn
          clear qn
          replace lz := lz.trans (l.mono lz.size)
          replace Fp := Fp.below l
          replace Fq := Fq.below l
          replace Q13 := Q13.below l Q13.lt
          clear l
          have z0 := lz0.size
          have e6 := exc_setRow u4 (u2.heap.size) #[.int .i64 (F.tmod 4), .int .i64 (Mk.iv I), .int .i64 (Mk.cnt E C), .int .i64 (Mk.unt E U), .slice A1 (Mk.mon lm).length c1, .slice A2 (Mk.D F ld).length c2, .slice A3 ((Mk.W F lw).map (·.1)).length c3, .slice A4 (Mk.P F lm ld lw lp).length c4]
          have c13 := Q13.setRow (cs := #[.int .i64 (F.tmod 4), .int .i64 (Mk.iv I), .int .i64 (Mk.cnt E C), .int .i64 (Mk.unt E U), .slice A1 (Mk.mon lm).length c1, .slice A2 (Mk.D F ld).length c2, .slice A3 ((Mk.W F lw).map (·.1)).length c3, .slice A4 (Mk.P F lm ld lw lp).length c4])
          have c14 := Q14.exc (e6 u4.heap.size) Q14.lt (by omega)
          have Gp := Fp.exc (e6 u4.heap.size) (by omega) tp0 tp1 tp2 tp3
          have Gq := Fq.exc (e6 u4.heap.size) (by omega) tq0 tq1 tq2 tq3
          refine heldL_store 6 (w' := u4.setRow (u2.heap.size) #[.int .i64 (F.tmod 4), .int .i64 (Mk.iv I), .int .i64 (Mk.cnt E C), .int .i64 (Mk.unt E U), .slice A1 (Mk.mon lm).length c1, .slice A2 (Mk.D F ld).length c2, .slice A3 ((Mk.W F lw).map (·.1)).length c3, .slice A4 (Mk.P F lm ld lw lp).length c4]) (by kernel_rfl) (by kernel_rfl) ?z166 (lz.trans ((e6 w.heap.size).below (by omega))) ?z167
          case z166 => (intro o ho; obtain rfl := Option.some.inj ho; exact ⟨rfl, k_storeR rfl (ev_tmp h13) (ev_tmp h66) Q13 rfl rfl (by simp [Value.oneCell'])⟩)
          case z167 =>
          have e7 := exc_setRow (u4.setRow (u2.heap.size) #[.int .i64 (F.tmod 4), .int .i64 (Mk.iv I), .int .i64 (Mk.cnt E C), .int .i64 (Mk.unt E U), .slice A1 (Mk.mon lm).length c1, .slice A2 (Mk.D F ld).length c2, .slice A3 ((Mk.W F lw).map (·.1)).length c3, .slice A4 (Mk.P F lm ld lw lp).length c4]) (u3.heap.size) #[.int .i64 (F'.tmod 4), .int .i64 (Mk.iv I'), .int .i64 (Mk.cnt E' C'), .int .i64 (Mk.unt E' U'), .slice B1 (Mk.mon lm').length d1, .slice B2 (Mk.D F' ld').length d2, .slice B3 ((Mk.W F' lw').map (·.1)).length d3, .slice B4 (Mk.P F' lm' ld' lw' lp').length d4]
          have g14 := c14.setRow (cs := #[.int .i64 (F'.tmod 4), .int .i64 (Mk.iv I'), .int .i64 (Mk.cnt E' C'), .int .i64 (Mk.unt E' U'), .slice B1 (Mk.mon lm').length d1, .slice B2 (Mk.D F' ld').length d2, .slice B3 ((Mk.W F' lw').map (·.1)).length d3, .slice B4 (Mk.P F' lm' ld' lw' lp').length d4])
          have g13 := c13.exc (e7 _) c13.lt (by omega)
          have Hp := (Gp.exc (e7 _) (by omega) tp0 tp1 tp2 tp3).plain
          have Hq := (Gq.exc (e7 _) (by omega) tq0 tq1 tq2 tq3).plain
          have lzz := (lz.trans ((e6 w.heap.size).below (by omega))).trans ((e7 w.heap.size).below (by omega))
          refine heldL_store 7 (w' := (u4.setRow (u2.heap.size) #[.int .i64 (F.tmod 4), .int .i64 (Mk.iv I), .int .i64 (Mk.cnt E C), .int .i64 (Mk.unt E U), .slice A1 (Mk.mon lm).length c1, .slice A2 (Mk.D F ld).length c2, .slice A3 ((Mk.W F lw).map (·.1)).length c3, .slice A4 (Mk.P F lm ld lw lp).length c4]).setRow (u3.heap.size) #[.int .i64 (F'.tmod 4), .int .i64 (Mk.iv I'), .int .i64 (Mk.cnt E' C'), .int .i64 (Mk.unt E' U'), .slice B1 (Mk.mon lm').length d1, .slice B2 (Mk.D F' ld').length d2, .slice B3 ((Mk.W F' lw').map (·.1)).length d3, .slice B4 (Mk.P F' lm' ld' lw' lp').length d4]) (by kernel_rfl) (by kernel_rfl) ?z168 lzz ?z169
          case z168 => (intro o ho; obtain rfl := Option.some.inj ho; exact ⟨rfl, k_storeR rfl (ev_tmp h14) (ev_tmp h68) c14 rfl rfl (by simp [Value.oneCell'])⟩)
          case z169 =>
          refine wpAnyH_done (by kernel_rfl) ?_ _
          exact hR a _ _ _ A1 A2 A3 A4 B1 B2 B3 B4 c1 c2 c3 c4 d1 d2 d3 d4 hs hd h5 h6 h7 h11 h12 h13 h14 g13 g14 Hp Hq lzz
      case z154 =>
        refine cont_val 5 14 (v := .pointer (some ⟨u2.heap.size, 0, none⟩)) (w' := u2.alloc (.cells #[.int .i64 0, .int .i64 0, .int .i64 0, .int .i64 0, .slice none 0 0, .slice none 0 0, .slice none 0 0, .slice none 0 0] 39)) (by kernel_rfl) (by rw [hs]; decide) ?z170 (lz.trans (((Below.refl _ _).alloc (Nat.le_refl _) _).mono lz.size)) ?z171
        case z170 => (intro o ho; obtain rfl := Option.some.inj ho; exact ⟨rfl, k_allocR rfl⟩)
        case z171 =>
        intro a F0
        replace hs := F0.z.trans hs
        replace hd := F0.e.trans hd
        replace h5 := (F0.n 5 (by decide)).trans h5
        replace h6 := (F0.n 6 (by decide)).trans h6
        replace h7 := (F0.n 7 (by decide)).trans h7
        replace h8 := (F0.n 8 (by decide)).trans h8
        replace h11 := (F0.n 11 (by decide)).trans h11
        replace h12 := (F0.n 12 (by decide)).trans h12
        replace h65 := (F0.n 65 (by decide)).trans h65
        replace h67 := (F0.n 67 (by decide)).trans h67
        replace h66 := (F0.n 66 (by decide)).trans h66
        replace h68 := (F0.n 68 (by decide)).trans h68
        have h14 := F0.s
        clear F0
        obtain ⟨u3, hwn⟩ : ∃ wn, wn = u2.alloc (.cells #[.int .i64 0, .int .i64 0, .int .i64 0, .int .i64 0, .slice none 0 0, .slice none 0 0, .slice none 0 0, .slice none 0 0] 39) := ⟨_, rfl⟩
        rw [← hwn]
        have qn : Blk u3 u2.heap.size 39 #[.int .i64 0, .int .i64 0, .int .i64 0, .int .i64 0, .slice none 0 0, .slice none 0 0, .slice none 0 0, .slice none 0 0] := by rw [hwn]; exact Blk.alloc _ _ _
        have ln : Below u2.heap.size u2 u3 := by rw [hwn]; exact (Below.refl _ _).alloc (Nat.le_refl _) _
        clear hwn
        have l := ln
        clear ln
        have hz2 := qn.lt
        have Q14 := qn
        clear qn
        replace lz := lz.trans (l.mono lz.size)
        replace Fp := Fp.below l
        replace Fq := Fq.below l
        clear l
        refine heldL_one 4 (by kernel_rfl) ?z175
        case z175 =>
          refine cont_val 4 13 (v := .pointer (some ⟨u3.heap.size, 0, none⟩)) (w' := u3.alloc (.cells #[.int .i64 0, .int .i64 0, .int .i64 0, .int .i64 0, .slice none 0 0, .slice none 0 0, .slice none 0 0, .slice none 0 0] 39)) (by kernel_rfl) (by rw [hs]; decide) ?z176 (lz.trans (((Below.refl _ _).alloc (Nat.le_refl _) _).mono lz.size)) ?z177
          case z176 => (intro o ho; obtain rfl := Option.some.inj ho; exact ⟨rfl, k_allocR rfl⟩)
          case z177 =>
          intro a F0
          replace hs := F0.z.trans hs
          replace hd := F0.e.trans hd
          replace h5 := (F0.n 5 (by decide)).trans h5
          replace h6 := (F0.n 6 (by decide)).trans h6
          replace h7 := (F0.n 7 (by decide)).trans h7
          replace h8 := (F0.n 8 (by decide)).trans h8
          replace h11 := (F0.n 11 (by decide)).trans h11
          replace h12 := (F0.n 12 (by decide)).trans h12
          replace h65 := (F0.n 65 (by decide)).trans h65
          replace h67 := (F0.n 67 (by decide)).trans h67
          replace h66 := (F0.n 66 (by decide)).trans h66
          replace h68 := (F0.n 68 (by decide)).trans h68
          replace h14 := (F0.n 14 (by decide)).trans h14
          have h13 := F0.s
          clear F0
          obtain ⟨u4, hwn⟩ : ∃ wn, wn = u3.alloc (.cells #[.int .i64 0, .int .i64 0, .int .i64 0, .int .i64 0, .slice none 0 0, .slice none 0 0, .slice none 0 0, .slice none 0 0] 39) := ⟨_, rfl⟩
          rw [← hwn]
          have qn : Blk u4 u3.heap.size 39 #[.int .i64 0, .int .i64 0, .int .i64 0, .int .i64 0, .slice none 0 0, .slice none 0 0, .slice none 0 0, .slice none 0 0] := by rw [hwn]; exact Blk.alloc _ _ _
          have ln : Below u3.heap.size u3 u4 := by rw [hwn]; exact (Below.refl _ _).alloc (Nat.le_refl _) _
          clear hwn
          have l := ln
          clear ln
          have hz3 := qn.lt
          have Q13 := qn
          clear qn
          replace lz := lz.trans (l.mono lz.size)
          replace Fp := Fp.below l
          replace Fq := Fq.below l
          replace Q14 := Q14.below l Q14.lt
          clear l
          have z0 := lz0.size
          have e6 := exc_setRow u4 (u3.heap.size) #[.int .i64 (F.tmod 4), .int .i64 (Mk.iv I), .int .i64 (Mk.cnt E C), .int .i64 (Mk.unt E U), .slice A1 (Mk.mon lm).length c1, .slice A2 (Mk.D F ld).length c2, .slice A3 ((Mk.W F lw).map (·.1)).length c3, .slice A4 (Mk.P F lm ld lw lp).length c4]
          have c13 := Q13.setRow (cs := #[.int .i64 (F.tmod 4), .int .i64 (Mk.iv I), .int .i64 (Mk.cnt E C), .int .i64 (Mk.unt E U), .slice A1 (Mk.mon lm).length c1, .slice A2 (Mk.D F ld).length c2, .slice A3 ((Mk.W F lw).map (·.1)).length c3, .slice A4 (Mk.P F lm ld lw lp).length c4])
          have c14 := Q14.exc (e6 u4.heap.size) Q14.lt (by omega)
          have Gp := Fp.exc (e6 u4.heap.size) (by omega) tp0 tp1 tp2 tp3
          have Gq := Fq.exc (e6 u4.heap.size) (by omega) tq0 tq1 tq2 tq3
          refine heldL_store 6 (w' := u4.setRow (u3.heap.size) #[.int .i64 (F.tmod 4), .int .i64 (Mk.iv I), .int .i64 (Mk.cnt E C), .int .i64 (Mk.unt E U), .slice A1 (Mk.mon lm).length c1, .slice A2 (Mk.D F ld).length c2, .slice A3 ((Mk.W F lw).map (·.1)).length c3, .slice A4 (Mk.P F lm ld lw lp).length c4]) (by kernel_rfl) (by kernel_rfl) ?z181 (lz.trans ((e6 w.heap.size).below (by omega))) ?z182
          case z181 => (intro o ho; obtain rfl := Option.some.inj ho; exact ⟨rfl, k_storeR rfl (ev_tmp h13) (ev_tmp h66) Q13 rfl rfl (by simp [Value.oneCell'])⟩)
          case z182 =>
          have e7 := exc_setRow (u4.setRow (u3.heap.size) #[.int .i64 (F.tmod 4), .int .i64 (Mk.iv I), .int .i64 (Mk.cnt E C), .int .i64 (Mk.unt E U), .slice A1 (Mk.mon lm).length c1, .slice A2 (Mk.D F ld).length c2, .slice A3 ((Mk.W F lw).map (·.1)).length c3, .slice A4 (Mk.P F lm ld lw lp).length c4]) (u2.heap.size) #[.int .i64 (F'.tmod 4), .int .i64 (Mk.iv I'), .int .i64 (Mk.cnt E' C'), .int .i64 (Mk.unt E' U'), .slice B1 (Mk.mon lm').length d1, .slice B2 (Mk.D F' ld').length d2, .slice B3 ((Mk.W F' lw').map (·.1)).length d3, .slice B4 (Mk.P F' lm' ld' lw' lp').length d4]
          have g14 := c14.setRow (cs := #[.int .i64 (F'.tmod 4), .int .i64 (Mk.iv I'), .int .i64 (Mk.cnt E' C'), .int .i64 (Mk.unt E' U'), .slice B1 (Mk.mon lm').length d1, .slice B2 (Mk.D F' ld').length d2, .slice B3 ((Mk.W F' lw').map (·.1)).length d3, .slice B4 (Mk.P F' lm' ld' lw' lp').length d4])
          have g13 := c13.exc (e7 _) c13.lt (by omega)
          have Hp := (Gp.exc (e7 _) (by omega) tp0 tp1 tp2 tp3).plain
          have Hq := (Gq.exc (e7 _) (by omega) tq0 tq1 tq2 tq3).plain
          have lzz := (lz.trans ((e6 w.heap.size).below (by omega))).trans ((e7 w.heap.size).below (by omega))
          refine heldL_store 7 (w' := (u4.setRow (u3.heap.size) #[.int .i64 (F.tmod 4), .int .i64 (Mk.iv I), .int .i64 (Mk.cnt E C), .int .i64 (Mk.unt E U), .slice A1 (Mk.mon lm).length c1, .slice A2 (Mk.D F ld).length c2, .slice A3 ((Mk.W F lw).map (·.1)).length c3, .slice A4 (Mk.P F lm ld lw lp).length c4]).setRow (u2.heap.size) #[.int .i64 (F'.tmod 4), .int .i64 (Mk.iv I'), .int .i64 (Mk.cnt E' C'), .int .i64 (Mk.unt E' U'), .slice B1 (Mk.mon lm').length d1, .slice B2 (Mk.D F' ld').length d2, .slice B3 ((Mk.W F' lw').map (·.1)).length d3, .slice B4 (Mk.P F' lm' ld' lw' lp').length d4]) (by kernel_rfl) (by kernel_rfl) ?z183 lzz ?z184
          case z183 => (intro o ho; obtain rfl := Option.some.inj ho; exact ⟨rfl, k_storeR rfl (ev_tmp h14) (ev_tmp h68) c14 rfl rfl (by simp [Value.oneCell'])⟩)
          case z184 =>
          refine wpAnyH_done (by kernel_rfl) ?_ _
          exact hR a _ _ _ A1 A2 A3 A4 B1 B2 B3 B4 c1 c2 c3 c4 d1 d2 d3 d4 hs hd h5 h6 h7 h11 h12 h13 h14 g13 g14 Hp Hq lzz
    case z146 =>
      refine cont_val 4 13 (v := .pointer (some ⟨u1.heap.size, 0, none⟩)) (w' := u1.alloc (.cells #[.int .i64 0, .int .i64 0, .int .i64 0, .int .i64 0, .slice none 0 0, .slice none 0 0, .slice none 0 0, .slice none 0 0] 39)) (by kernel_rfl) (by rw [hs]; decide) ?z185 (lz.trans (((Below.refl _ _).alloc (Nat.le_refl _) _).mono lz.size)) ?z186
      case z185 => (intro o ho; obtain rfl := Option.some.inj ho; exact ⟨rfl, k_allocR rfl⟩)
      case z186 =>
      intro a F0
      replace hs := F0.z.trans hs
      replace hd := F0.e.trans hd
      replace h5 := (F0.n 5 (by decide)).trans h5
      replace h6 := (F0.n 6 (by decide)).trans h6
      replace h7 := (F0.n 7 (by decide)).trans h7
      replace h8 := (F0.n 8 (by decide)).trans h8
      replace h11 := (F0.n 11 (by decide)).trans h11
      replace h12 := (F0.n 12 (by decide)).trans h12
      replace h65 := (F0.n 65 (by decide)).trans h65
      replace h67 := (F0.n 67 (by decide)).trans h67
      replace h66 := (F0.n 66 (by decide)).trans h66
      have h13 := F0.s
      clear F0
      obtain ⟨u2, hwn⟩ : ∃ wn, wn = u1.alloc (.cells #[.int .i64 0, .int .i64 0, .int .i64 0, .int .i64 0, .slice none 0 0, .slice none 0 0, .slice none 0 0, .slice none 0 0] 39) := ⟨_, rfl⟩
      rw [← hwn]
      have qn : Blk u2 u1.heap.size 39 #[.int .i64 0, .int .i64 0, .int .i64 0, .int .i64 0, .slice none 0 0, .slice none 0 0, .slice none 0 0, .slice none 0 0] := by rw [hwn]; exact Blk.alloc _ _ _
      have ln : Below u1.heap.size u1 u2 := by rw [hwn]; exact (Below.refl _ _).alloc (Nat.le_refl _) _
      clear hwn
      have l := ln
      clear ln
      have hz1 := qn.lt
      have Q13 := qn
      clear qn
      replace lz := lz.trans (l.mono lz.size)
      replace Fp := Fp.below l
      clear l
      refine heldL_two 3 5 (by kernel_rfl) ?z190 ?z191
      case z190 =>
        have hc := make_any' F' I' E' C' U' AM' AD' AW' AP' cM' cD' cW' cP' lm' ld' lw' lp' u2 (hY.below lz)
        have hx := fun ops Q S fuel listed d a i h1 h2 h3 => cont_call (P := Tryd.prog) (ops := ops) (Q := Q) (S := S) (fuel := fuel) (listed := listed) (a := a) (w := u2) i d h1 h2 h3 hc
        refine hx _ _ _ _ _ 68 _ 3 ?z195 ?z196 ?z192 ?z194 ?z193
        case z195 => kernel_rfl
        case z196 => (rw [hs]; decide)
        case z192 => (intro o ho; obtain rfl := Option.some.inj ho; exact ⟨rfl, c_Make rfl rfl (ev_tmp h67)⟩)
        case z194 => (rintro _ _ ⟨_, _, _, _, _, _, _, _, _, _, _, rfl, _, l⟩; exact lz.trans (l.mono lz.size))
        case z193 =>
        clear hx hc
        rintro _ u3 a ⟨B1, B2, B3, B4, d1, d2, d3, d4, sD, sW, sP, rfl, Fq, l⟩ F0
        replace hs := F0.z.trans hs
        replace hd := F0.e.trans hd
        replace h5 := (F0.n 5 (by decide)).trans h5
        replace h6 := (F0.n 6 (by decide)).trans h6
        replace h7 := (F0.n 7 (by decide)).trans h7
        replace h8 := (F0.n 8 (by decide)).trans h8
        replace h11 := (F0.n 11 (by decide)).trans h11
        replace h12 := (F0.n 12 (by decide)).trans h12
        replace h65 := (F0.n 65 (by decide)).trans h65
        replace h67 := (F0.n 67 (by decide)).trans h67
        replace h66 := (F0.n 66 (by decide)).trans h66
        replace h13 := (F0.n 13 (by decide)).trans h13
        have h68 := F0.s
        clear F0
        have tq0 := fun g hg => (Fq.oM.lt g hg).2
        have tq1 := fun g hg => (Fq.oD.lt g hg).2
        have tq2 := fun g hg => (Fq.oW.lt g hg).2
        have tq3 := fun g hg => (Fq.oP.lt g hg).2
        have hz2 := l.size
        replace lz := lz.trans (l.mono lz.size)
        replace Fp := Fp.below l
        replace Q13 := Q13.below l Q13.lt
        clear l
        refine heldL_one 5 (by kernel_rfl) ?z197
        case z197 =>
          refine cont_val 5 14 (v := .pointer (some ⟨u3.heap.size, 0, none⟩)) (w' := u3.alloc (.cells #[.int .i64 0, .int .i64 0, .int .i64 0, .int .i64 0, .slice none 0 0, .slice none 0 0, .slice none 0 0, .slice none 0 0] 39)) (by kernel_rfl) (by rw [hs]; decide) ?z198 (lz.trans (((Below.refl _ _).alloc (Nat.le_refl _) _).mono lz.size)) ?z199
          case z198 => (intro o ho; obtain rfl := Option.some.inj ho; exact ⟨rfl, k_allocR rfl⟩)
          case z199 =>
          intro a F0
          replace hs := F0.z.trans hs
          replace hd := F0.e.trans hd
          replace h5 := (F0.n 5 (by decide)).trans h5
          replace h6 := (F0.n 6 (by decide)).trans h6
          replace h7 := (F0.n 7 (by decide)).trans h7
          replace h8 := (F0.n 8 (by decide)).trans h8
          replace h11 := (F0.n 11 (by decide)).trans h11
          replace h12 := (F0.n 12 (by decide)).trans h12
          replace h65 := (F0.n 65 (by decide)).trans h65
          replace h67 := (F0.n 67 (by decide)).trans h67
          replace h66 := (F0.n 66 (by decide)).trans h66
          replace h13 := (F0.n 13 (by decide)).trans h13
          replace h68 := (F0.n 68 (by decide)).trans h68
          have h14 := F0.s
          clear F0
          obtain ⟨u4, hwn⟩ : ∃ wn, wn = u3.alloc (.cells #[.int .i64 0, .int .i64 0, .int .i64 0, .int .i64 0, .slice none 0 0, .slice none 0 0, .slice none 0 0, .slice none 0 0] 39) := ⟨_, rfl⟩
          rw [← hwn]
          have qn : Blk u4 u3.heap.size 39 #[.int .i64 0, .int .i64 0, .int .i64 0, .int .i64 0, .slice none 0 0, .slice none 0 0, .slice none 0 0, .slice none 0 0] := by rw [hwn]; exact Blk.alloc _ _ _
          have ln : Below u3.heap.size u3 u4 := by rw [hwn]; exact (Below.refl _ _).alloc (Nat.le_refl _) _
          clear hwn
          have l := ln
          clear ln
          have hz3 := qn.lt
          have Q14 := qn
          clear qn
          replace lz := lz.trans (l.mono lz.size)
          replace Fp := Fp.below l
          replace Fq := Fq.below l
          replace Q13 := Q13.below l Q13.lt
          clear l
          have z0 := lz0.size
          have e6 := exc_setRow u4 (u1.heap.size) #[.int .i64 (F.tmod 4), .int .i64 (Mk.iv I), .int .i64 (Mk.cnt E C), .int .i64 (Mk.unt E U), .slice A1 (Mk.mon lm).length c1, .slice A2 (Mk.D F ld).length c2, .slice A3 ((Mk.W F lw).map (·.1)).length c3, .slice A4 (Mk.P F lm ld lw lp).length c4]
          have c13 := Q13.setRow (cs := #[.int .i64 (F.tmod 4), .int .i64 (Mk.iv I), .int .i64 (Mk.cnt E C), .int .i64 (Mk.unt E U), .slice A1 (Mk.mon lm).length c1, .slice A2 (Mk.D F ld).length c2, .slice A3 ((Mk.W F lw).map (·.1)).length c3, .slice A4 (Mk.P F lm ld lw lp).length c4])
          have c14 := Q14.exc (e6 u4.heap.size) Q14.lt (by omega)
          have Gp := Fp.exc (e6 u4.heap.size) (by omega) tp0 tp1 tp2 tp3
          have Gq := Fq.exc (e6 u4.heap.size) (by omega) tq0 tq1 tq2 tq3
          refine heldL_store 6 (w' := u4.setRow (u1.heap.size) #[.int .i64 (F.tmod 4), .int .i64 (Mk.iv I), .int .i64 (Mk.cnt E C), .int .i64 (Mk.unt E U), .slice A1 (Mk.mon lm).length c1, .slice A2 (Mk.D F ld).length c2, .slice A3 ((Mk.W F lw).map (·.1)).length c3, .slice A4 (Mk.P F lm ld lw lp).length c4]) (by kernel_rfl) (by kernel_rfl) ?z203 (lz.trans ((e6 w.heap.size).below (by omega))) ?z204
          case z203 => (intro o ho; obtain rfl := Option.some.inj ho; exact ⟨rfl, k_storeR rfl (ev_tmp h13) (ev_tmp h66) Q13 rfl rfl (by simp [Value.oneCell'])⟩)
          case z204 =>
          have e7 := exc_setRow (u4.setRow (u1.heap.size) #[.int .i64 (F.tmod 4), .int .i64 (Mk.iv I), .int .i64 (Mk.cnt E C), .int .i64 (Mk.unt E U), .slice A1 (Mk.mon lm).length c1, .slice A2 (Mk.D F ld).length c2, .slice A3 ((Mk.W F lw).map (·.1)).length c3, .slice A4 (Mk.P F lm ld lw lp).length c4]) (u3.heap.size) #[.int .i64 (F'.tmod 4), .int .i64 (Mk.iv I'), .int .i64 (Mk.cnt E' C'), .int .i64 (Mk.unt E' U'), .slice B1 (Mk.mon lm').length d1, .slice B2 (Mk.D F' ld').length d2, .slice B3 ((Mk.W F' lw').map (·.1)).length d3, .slice B4 (Mk.P F' lm' ld' lw' lp').length d4]
          have g14 := c14.setRow (cs := #[.int .i64 (F'.tmod 4), .int .i64 (Mk.iv I'), .int .i64 (Mk.cnt E' C'), .int .i64 (Mk.unt E' U'), .slice B1 (Mk.mon lm').length d1, .slice B2 (Mk.D F' ld').length d2, .slice B3 ((Mk.W F' lw').map (·.1)).length d3, .slice B4 (Mk.P F' lm' ld' lw' lp').length d4])
          have g13 := c13.exc (e7 _) c13.lt (by omega)
          have Hp := (Gp.exc (e7 _) (by omega) tp0 tp1 tp2 tp3).plain
          have Hq := (Gq.exc (e7 _) (by omega) tq0 tq1 tq2 tq3).plain
          have lzz := (lz.trans ((e6 w.heap.size).below (by omega))).trans ((e7 w.heap.size).below (by omega))
          refine heldL_store 7 (w' := (u4.setRow (u1.heap.size) #[.int .i64 (F.tmod 4), .int .i64 (Mk.iv I), .int .i64 (Mk.cnt E C), .int .i64 (Mk.unt E U), .slice A1 (Mk.mon lm).length c1, .slice A2 (Mk.D F ld).length c2, .slice A3 ((Mk.W F lw).map (·.1)).length c3, .slice A4 (Mk.P F lm ld lw lp).length c4]).setRow (u3.heap.size) #[.int .i64 (F'.tmod 4), .int .i64 (Mk.iv I'), .int .i64 (Mk.cnt E' C'), .int .i64 (Mk.unt E' U'), .slice B1 (Mk.mon lm').length d1, .slice B2 (Mk.D F' ld').length d2, .slice B3 ((Mk.W F' lw').map (·.1)).length d3, .slice B4 (Mk.P F' lm' ld' lw' lp').length d4]) (by kernel_rfl) (by kernel_rfl) ?z205 lzz ?z206
          case z205 => (intro o ho; obtain rfl := Option.some.inj ho; exact ⟨rfl, k_storeR rfl (ev_tmp h14) (ev_tmp h68) c14 rfl rfl (by simp [Value.oneCell'])⟩)
          case z206 =>
          refine wpAnyH_done (by kernel_rfl) ?_ _
          exact hR a _ _ _ A1 A2 A3 A4 B1 B2 B3 B4 c1 c2 c3 c4 d1 d2 d3 d4 hs hd h5 h6 h7 h11 h12 h13 h14 g13 g14 Hp Hq lzz
      case z191 =>
        refine cont_val 5 14 (v := .pointer (some ⟨u2.heap.size, 0, none⟩)) (w' := u2.alloc (.cells #[.int .i64 0, .int .i64 0, .int .i64 0, .int .i64 0, .slice none 0 0, .slice none 0 0, .slice none 0 0, .slice none 0 0] 39)) (by kernel_rfl) (by rw [hs]; decide) ?z207 (lz.trans (((Below.refl _ _).alloc (Nat.le_refl _) _).mono lz.size)) ?z208
        case z207 => (intro o ho; obtain rfl := Option.some.inj ho; exact ⟨rfl, k_allocR rfl⟩)
        case z208 =>
        intro a F0
        replace hs := F0.z.trans hs
        replace hd := F0.e.trans hd
        replace h5 := (F0.n 5 (by decide)).trans h5
        replace h6 := (F0.n 6 (by decide)).trans h6
        replace h7 := (F0.n 7 (by decide)).trans h7
        replace h8 := (F0.n 8 (by decide)).trans h8
        replace h11 := (F0.n 11 (by decide)).trans h11
        replace h12 := (F0.n 12 (by decide)).trans h12
        replace h65 := (F0.n 65 (by decide)).trans h65
        replace h67 := (F0.n 67 (by decide)).trans h67
        replace h66 := (F0.n 66 (by decide)).trans h66
        replace h13 := (F0.n 13 (by decide)).trans h13
        have h14 := F0.s
        clear F0
        obtain ⟨u3, hwn⟩ : ∃ wn, wn = u2.alloc (.cells #[.int .i64 0, .int .i64 0, .int .i64 0, .int .i64 0, .slice none 0 0, .slice none 0 0, .slice none 0 0, .slice none 0 0] 39) := ⟨_, rfl⟩
        rw [← hwn]
        have qn : Blk u3 u2.heap.size 39 #[.int .i64 0, .int .i64 0, .int .i64 0, .int .i64 0, .slice none 0 0, .slice none 0 0, .slice none 0 0, .slice none 0 0] := by rw [hwn]; exact Blk.alloc _ _ _
        have ln : Below u2.heap.size u2 u3 := by rw [hwn]; exact (Below.refl _ _).alloc (Nat.le_refl _) _
        clear hwn
        have l := ln
        clear ln
        have hz2 := qn.lt
        have Q14 := qn
        clear qn
        replace lz := lz.trans (l.mono lz.size)
        replace Fp := Fp.below l
        replace Q13 := Q13.below l Q13.lt
        clear l
        refine heldL_one 3 (by kernel_rfl) ?z212
        case z212 =>
          have hc := make_any' F' I' E' C' U' AM' AD' AW' AP' cM' cD' cW' cP' lm' ld' lw' lp' u3 (hY.below lz)
          have hx := fun ops Q S fuel listed d a i h1 h2 h3 => cont_call (P := Tryd.prog) (ops := ops) (Q := Q) (S := S) (fuel := fuel) (listed := listed) (a := a) (w := u3) i d h1 h2 h3 hc
          refine hx _ _ _ _ _ 68 _ 3 ?z216 ?z217 ?z213 ?z215 ?z214
          case z216 => kernel_rfl
          case z217 => (rw [hs]; decide)
          case z213 => (intro o ho; obtain rfl := Option.some.inj ho; exact ⟨rfl, c_Make rfl rfl (ev_tmp h67)⟩)
          case z215 => (rintro _ _ ⟨_, _, _, _, _, _, _, _, _, _, _, rfl, _, l⟩; exact lz.trans (l.mono lz.size))
          case z214 =>
          clear hx hc
          rintro _ u4 a ⟨B1, B2, B3, B4, d1, d2, d3, d4, sD, sW, sP, rfl, Fq, l⟩ F0
          replace hs := F0.z.trans hs
          replace hd := F0.e.trans hd
          replace h5 := (F0.n 5 (by decide)).trans h5
          replace h6 := (F0.n 6 (by decide)).trans h6
          replace h7 := (F0.n 7 (by decide)).trans h7
          replace h8 := (F0.n 8 (by decide)).trans h8
          replace h11 := (F0.n 11 (by decide)).trans h11
          replace h12 := (F0.n 12 (by decide)).trans h12
          replace h65 := (F0.n 65 (by decide)).trans h65
          replace h67 := (F0.n 67 (by decide)).trans h67
          replace h66 := (F0.n 66 (by decide)).trans h66
          replace h13 := (F0.n 13 (by decide)).trans h13
          replace h14 := (F0.n 14 (by decide)).trans h14
          have h68 := F0.s
          clear F0
          have tq0 := fun g hg => (Fq.oM.lt g hg).2
          have tq1 := fun g hg => (Fq.oD.lt g hg).2
          have tq2 := fun g hg => (Fq.oW.lt g hg).2
          have tq3 := fun g hg => (Fq.oP.lt g hg).2
          have hz3 := l.size
          replace lz := lz.trans (l.mono lz.size)
          replace Fp := Fp.below l
          replace Q13 := Q13.below l Q13.lt
          replace Q14 := Q14.below l Q14.lt
          clear l
          have z0 := lz0.size
          have e6 := exc_setRow u4 (u1.heap.size) #[.int .i64 (F.tmod 4), .int .i64 (Mk.iv I), .int .i64 (Mk.cnt E C), .int .i64 (Mk.unt E U), .slice A1 (Mk.mon lm).length c1, .slice A2 (Mk.D F ld).length c2, .slice A3 ((Mk.W F lw).map (·.1)).length c3, .slice A4 (Mk.P F lm ld lw lp).length c4]
          have c13 := Q13.setRow (cs := #[.int .i64 (F.tmod 4), .int .i64 (Mk.iv I), .int .i64 (Mk.cnt E C), .int .i64 (Mk.unt E U), .slice A1 (Mk.mon lm).length c1, .slice A2 (Mk.D F ld).length c2, .slice A3 ((Mk.W F lw).map (·.1)).length c3, .slice A4 (Mk.P F lm ld lw lp).length c4])
          have c14 := Q14.exc (e6 u4.heap.size) Q14.lt (by omega)
          have Gp := Fp.exc (e6 u4.heap.size) (by omega) tp0 tp1 tp2 tp3
          have Gq := Fq.exc (e6 u4.heap.size) (by omega) tq0 tq1 tq2 tq3
          refine heldL_store 6 (w' := u4.setRow (u1.heap.size) #[.int .i64 (F.tmod 4), .int .i64 (Mk.iv I), .int .i64 (Mk.cnt E C), .int .i64 (Mk.unt E U), .slice A1 (Mk.mon lm).length c1, .slice A2 (Mk.D F ld).length c2, .slice A3 ((Mk.W F lw).map (·.1)).length c3, .slice A4 (Mk.P F lm ld lw lp).length c4]) (by kernel_rfl) (by kernel_rfl) ?z218 (lz.trans ((e6 w.heap.size).below (by omega))) ?z219
          case z218 => (intro o ho; obtain rfl := Option.some.inj ho; exact ⟨rfl, k_storeR rfl (ev_tmp h13) (ev_tmp h66) Q13 rfl rfl (by simp [Value.oneCell'])⟩)
          case z219 =>
          have e7 := exc_setRow (u4.setRow (u1.heap.size) #[.int .i64 (F.tmod 4), .int .i64 (Mk.iv I), .int .i64 (Mk.cnt E C), .int .i64 (Mk.unt E U), .slice A1 (Mk.mon lm).length c1, .slice A2 (Mk.D F ld).length c2, .slice A3 ((Mk.W F lw).map (·.1)).length c3, .slice A4 (Mk.P F lm ld lw lp).length c4]) (u2.heap.size) #[.int .i64 (F'.tmod 4), .int .i64 (Mk.iv I'), .int .i64 (Mk.cnt E' C'), .int .i64 (Mk.unt E' U'), .slice B1 (Mk.mon lm').length d1, .slice B2 (Mk.D F' ld').length d2, .slice B3 ((Mk.W F' lw').map (·.1)).length d3, .slice B4 (Mk.P F' lm' ld' lw' lp').length d4]
          have g14 := c14.setRow (cs := #[.int .i64 (F'.tmod 4), .int .i64 (Mk.iv I'), .int .i64 (Mk.cnt E' C'), .int .i64 (Mk.unt E' U'), .slice B1 (Mk.mon lm').length d1, .slice B2 (Mk.D F' ld').length d2, .slice B3 ((Mk.W F' lw').map (·.1)).length d3, .slice B4 (Mk.P F' lm' ld' lw' lp').length d4])
          have g13 := c13.exc (e7 _) c13.lt (by omega)
          have Hp := (Gp.exc (e7 _) (by omega) tp0 tp1 tp2 tp3).plain
          have Hq := (Gq.exc (e7 _) (by omega) tq0 tq1 tq2 tq3).plain
          have lzz := (lz.trans ((e6 w.heap.size).below (by omega))).trans ((e7 w.heap.size).below (by omega))
          refine heldL_store 7 (w' := (u4.setRow (u1.heap.size) #[.int .i64 (F.tmod 4), .int .i64 (Mk.iv I), .int .i64 (Mk.cnt E C), .int .i64 (Mk.unt E U), .slice A1 (Mk.mon lm).length c1, .slice A2 (Mk.D F ld).length c2, .slice A3 ((Mk.W F lw).map (·.1)).length c3, .slice A4 (Mk.P F lm ld lw lp).length c4]).setRow (u2.heap.size) #[.int .i64 (F'.tmod 4), .int .i64 (Mk.iv I'), .int .i64 (Mk.cnt E' C'), .int .i64 (Mk.unt E' U'), .slice B1 (Mk.mon lm').length d1, .slice B2 (Mk.D F' ld').length d2, .slice B3 ((Mk.W F' lw').map (·.1)).length d3, .slice B4 (Mk.P F' lm' ld' lw' lp').length d4]) (by kernel_rfl) (by kernel_rfl) ?z220 lzz ?z221
          case z220 => (intro o ho; obtain rfl := Option.some.inj ho; exact ⟨rfl, k_storeR rfl (ev_tmp h14) (ev_tmp h68) c14 rfl rfl (by simp [Value.oneCell'])⟩)
          case z221 =>
          refine wpAnyH_done (by kernel_rfl) ?_ _
          exact hR a _ _ _ A1 A2 A3 A4 B1 B2 B3 B4 c1 c2 c3 c4 d1 d2 d3 d4 hs hd h5 h6 h7 h11 h12 h13 h14 g13 g14 Hp Hq lzz
    case z147 =>
      refine cont_val 5 14 (v := .pointer (some ⟨u1.heap.size, 0, none⟩)) (w' := u1.alloc (.cells #[.int .i64 0, .int .i64 0, .int .i64 0, .int .i64 0, .slice none 0 0, .slice none 0 0, .slice none 0 0, .slice none 0 0] 39)) (by kernel_rfl) (by rw [hs]; decide) ?z222 (lz.trans (((Below.refl _ _).alloc (Nat.le_refl _) _).mono lz.size)) ?z223
      case z222 => (intro o ho; obtain rfl := Option.some.inj ho; exact ⟨rfl, k_allocR rfl⟩)
      case z223 =>
      intro a F0
      replace hs := F0.z.trans hs
      replace hd := F0.e.trans hd
      replace h5 := (F0.n 5 (by decide)).trans h5
      replace h6 := (F0.n 6 (by decide)).trans h6
      replace h7 := (F0.n 7 (by decide)).trans h7
      replace h8 := (F0.n 8 (by decide)).trans h8
      replace h11 := (F0.n 11 (by decide)).trans h11
      replace h12 := (F0.n 12 (by decide)).trans h12
      replace h65 := (F0.n 65 (by decide)).trans h65
      replace h67 := (F0.n 67 (by decide)).trans h67
      replace h66 := (F0.n 66 (by decide)).trans h66
      have h14 := F0.s
      clear F0
      obtain ⟨u2, hwn⟩ : ∃ wn, wn = u1.alloc (.cells #[.int .i64 0, .int .i64 0, .int .i64 0, .int .i64 0, .slice none 0 0, .slice none 0 0, .slice none 0 0, .slice none 0 0] 39) := ⟨_, rfl⟩
      rw [← hwn]
      have qn : Blk u2 u1.heap.size 39 #[.int .i64 0, .int .i64 0, .int .i64 0, .int .i64 0, .slice none 0 0, .slice none 0 0, .slice none 0 0, .slice none 0 0] := by rw [hwn]; exact Blk.alloc _ _ _
      have ln : Below u1.heap.size u1 u2 := by rw [hwn]; exact (Below.refl _ _).alloc (Nat.le_refl _) _
      clear hwn
      have l := ln
      clear ln
      have hz1 := qn.lt
      have Q14 := qn
      clear qn
      replace lz := lz.trans (l.mono lz.size)
      replace Fp := Fp.below l
      clear l
      refine heldL_two 3 4 (by kernel_rfl) ?z227 ?z228
      case z227 =>
        have hc := make_any' F' I' E' C' U' AM' AD' AW' AP' cM' cD' cW' cP' lm' ld' lw' lp' u2 (hY.below lz)
        have hx := fun ops Q S fuel listed d a i h1 h2 h3 => cont_call (P := Tryd.prog) (ops := ops) (Q := Q) (S := S) (fuel := fuel) (listed := listed) (a := a) (w := u2) i d h1 h2 h3 hc
        refine hx _ _ _ _ _ 68 _ 3 ?z232 ?z233 ?z229 ?z231 ?z230
        case z232 => kernel_rfl
        case z233 => (rw [hs]; decide)
        case z229 => (intro o ho; obtain rfl := Option.some.inj ho; exact ⟨rfl, c_Make rfl rfl (ev_tmp h67)⟩)
        case z231 => (rintro _ _ ⟨_, _, _, _, _, _, _, _, _, _, _, rfl, _, l⟩; exact lz.trans (l.mono lz.size))
        case z230 =>
        clear hx hc
        rintro _ u3 a ⟨B1, B2, B3, B4, d1, d2, d3, d4, sD, sW, sP, rfl, Fq, l⟩ F0
        replace hs := F0.z.trans hs
        replace hd := F0.e.trans hd
        replace h5 := (F0.n 5 (by decide)).trans h5
        replace h6 := (F0.n 6 (by decide)).trans h6
        replace h7 := (F0.n 7 (by decide)).trans h7
        replace h8 := (F0.n 8 (by decide)).trans h8
        replace h11 := (F0.n 11 (by decide)).trans h11
        replace h12 := (F0.n 12 (by decide)).trans h12
        replace h65 := (F0.n 65 (by decide)).trans h65
        replace h67 := (F0.n 67 (by decide)).trans h67
        replace h66 := (F0.n 66 (by decide)).trans h66
        replace h14 := (F0.n 14 (by decide)).trans h14
        have h68 := F0.s
        clear F0
        have tq0 := fun g hg => (Fq.oM.lt g hg).2
        have tq1 := fun g hg => (Fq.oD.lt g hg).2
        have tq2 := fun g hg => (Fq.oW.lt g hg).2
        have tq3 := fun g hg => (Fq.oP.lt g hg).2
        have hz2 := l.size
        replace lz := lz.trans (l.mono lz.size)
        replace Fp := Fp.below l
        replace Q14 := Q14.below l Q14.lt
        clear l
        refine heldL_one 4 (by kernel_rfl) ?z234
        case z234 =>
          refine cont_val 4 13 (v := .pointer (some ⟨u3.heap.size, 0, none⟩)) (w' := u3.alloc (.cells #[.int .i64 0, .int .i64 0, .int .i64 0, .int .i64 0, .slice none 0 0, .slice none 0 0, .slice none 0 0, .slice none 0 0] 39)) (by kernel_rfl) (by rw [hs]; decide) ?z235 (lz.trans (((Below.refl _ _).alloc (Nat.le_refl _) _).mono lz.size)) ?z236
          case z235 => (intro o ho; obtain rfl := Option.some.inj ho; exact ⟨rfl, k_allocR rfl⟩)
          case z236 =>
          intro a F0
          replace hs := F0.z.trans hs
          replace hd := F0.e.trans hd
          replace h5 := (F0.n 5 (by decide)).trans h5
          replace h6 := (F0.n 6 (by decide)).trans h6
          replace h7 := (F0.n 7 (by decide)).trans h7
          replace h8 := (F0.n 8 (by decide)).trans h8
          replace h11 := (F0.n 11 (by decide)).trans h11
          replace h12 := (F0.n 12 (by decide)).trans h12
          replace h65 := (F0.n 65 (by decide)).trans h65
          replace h67 := (F0.n 67 (by decide)).trans h67
          replace h66 := (F0.n 66 (by decide)).trans h66
          replace h14 := (F0.n 14 (by decide)).trans h14
          replace h68 := (F0.n 68 (by decide)).trans h68
          have h13 := F0.s
          clear F0
          obtain ⟨u4, hwn⟩ : ∃ wn, wn = u3.alloc (.cells #[.int .i64 0, .int .i64 0, .int .i64 0, .int .i64 0, .slice none 0 0, .slice none 0 0, .slice none 0 0, .slice none 0 0] 39) := ⟨_, rfl⟩
          rw [← hwn]
          have qn : Blk u4 u3.heap.size 39 #[.int .i64 0, .int .i64 0, .int .i64 0, .int .i64 0, .slice none 0 0, .slice none 0 0, .slice none 0 0, .slice none 0 0] := by rw [hwn]; exact Blk.alloc _ _ _
          have ln : Below u3.heap.size u3 u4 := by rw [hwn]; exact (Below.refl _ _).alloc (Nat.le_refl _) _
          clear hwn
          have l := ln
          clear ln
          have hz3 := qn.lt
          have Q13 := qn
          clear qn
          replace lz := lz.trans (l.mono lz.size)
          replace Fp := Fp.below l
          replace Fq := Fq.below l
          replace Q14 := Q14.below l Q14.lt
          clear l
          have z0 := lz0.size
          have e6 := exc_setRow u4 (u3.heap.size) #[.int .i64 (F.tmod 4), .int .i64 (Mk.iv I), .int .i64 (Mk.cnt E C), .int .i64 (Mk.unt E U), .slice A1 (Mk.mon lm).length c1, .slice A2 (Mk.D F ld).length c2, .slice A3 ((Mk.W F lw).map (·.1)).length c3, .slice A4 (Mk.P F lm ld lw lp).length c4]
          have c13 := Q13.setRow (cs := #[.int .i64 (F.tmod 4), .int .i64 (Mk.iv I), .int .i64 (Mk.cnt E C), .int .i64 (Mk.unt E U), .slice A1 (Mk.mon lm).length c1, .slice A2 (Mk.D F ld).length c2, .slice A3 ((Mk.W F lw).map (·.1)).length c3, .slice A4 (Mk.P F lm ld lw lp).length c4])
          have c14 := Q14.exc (e6 u4.heap.size) Q14.lt (by omega)
          have Gp := Fp.exc (e6 u4.heap.size) (by omega) tp0 tp1 tp2 tp3
          have Gq := Fq.exc (e6 u4.heap.size) (by omega) tq0 tq1 tq2 tq3
          refine heldL_store 6 (w' := u4.setRow (u3.heap.size) #[.int .i64 (F.tmod 4), .int .i64 (Mk.iv I), .int .i64 (Mk.cnt E C), .int .i64 (Mk.unt E U), .slice A1 (Mk.mon lm).length c1, .slice A2 (Mk.D F ld).length c2, .slice A3 ((Mk.W F lw).map (·.1)).length c3, .slice A4 (Mk.P F lm ld lw lp).length c4]) (by kernel_rfl) (by kernel_rfl) ?z240 (lz.trans ((e6 w.heap.size).below (by omega))) ?z241
          case z240 => (intro o ho; obtain rfl := Option.some.inj ho; exact ⟨rfl, k_storeR rfl (ev_tmp h13) (ev_tmp h66) Q13 rfl rfl (by simp [Value.oneCell'])⟩)
          case z241 =>
          have e7 := exc_setRow (u4.setRow (u3.heap.size) #[.int .i64 (F.tmod 4), .int .i64 (Mk.iv I), .int .i64 (Mk.cnt E C), .int .i64 (Mk.unt E U), .slice A1 (Mk.mon lm).length c1, .slice A2 (Mk.D F ld).length c2, .slice A3 ((Mk.W F lw).map (·.1)).length c3, .slice A4 (Mk.P F lm ld lw lp).length c4]) (u1.heap.size) #[.int .i64 (F'.tmod 4), .int .i64 (Mk.iv I'), .int .i64 (Mk.cnt E' C'), .int .i64 (Mk.unt E' U'), .slice B1 (Mk.mon lm').length d1, .slice B2 (Mk.D F' ld').length d2, .slice B3 ((Mk.W F' lw').map (·.1)).length d3, .slice B4 (Mk.P F' lm' ld' lw' lp').length d4]
          have g14 := c14.setRow (cs := #[.int .i64 (F'.tmod 4), .int .i64 (Mk.iv I'), .int .i64 (Mk.cnt E' C'), .int .i64 (Mk.unt E' U'), .slice B1 (Mk.mon lm').length d1, .slice B2 (Mk.D F' ld').length d2, .slice B3 ((Mk.W F' lw').map (·.1)).length d3, .slice B4 (Mk.P F' lm' ld' lw' lp').length d4])
          have g13 := c13.exc (e7 _) c13.lt (by omega)
          have Hp := (Gp.exc (e7 _) (by omega) tp0 tp1 tp2 tp3).plain
          have Hq := (Gq.exc (e7 _) (by omega) tq0 tq1 tq2 tq3).plain
          have lzz := (lz.trans ((e6 w.heap.size).below (by omega))).trans ((e7 w.heap.size).below (by omega))
          refine heldL_store 7 (w' := (u4.setRow (u3.heap.size) #[.int .i64 (F.tmod 4), .int .i64 (Mk.iv I), .int .i64 (Mk.cnt E C), .int .i64 (Mk.unt E U), .slice A1 (Mk.mon lm).length c1, .slice A2 (Mk.D F ld).length c2, .slice A3 ((Mk.W F lw).map (·.1)).length c3, .slice A4 (Mk.P F lm ld lw lp).length c4]).setRow (u1.heap.size) #[.int .i64 (F'.tmod 4), .int .i64 (Mk.iv I'), .int .i64 (Mk.cnt E' C'), .int .i64 (Mk.unt E' U'), .slice B1 (Mk.mon lm').length d1, .slice B2 (Mk.D F' ld').length d2, .slice B3 ((Mk.W F' lw').map (·.1)).length d3, .slice B4 (Mk.P F' lm' ld' lw' lp').length d4]) (by kernel_rfl) (by kernel_rfl) ?z242 lzz ?z243
          case z242 => (intro o ho; obtain rfl := Option.some.inj ho; exact ⟨rfl, k_storeR rfl (ev_tmp h14) (ev_tmp h68) c14 rfl rfl (by simp [Value.oneCell'])⟩)
          case z243 =>
          refine wpAnyH_done (by kernel_rfl) ?_ _
          exact hR a _ _ _ A1 A2 A3 A4 B1 B2 B3 B4 c1 c2 c3 c4 d1 d2 d3 d4 hs hd h5 h6 h7 h11 h12 h13 h14 g13 g14 Hp Hq lzz
      case z228 =>
        refine cont_val 4 13 (v := .pointer (some ⟨u2.heap.size, 0, none⟩)) (w' := u2.alloc (.cells #[.int .i64 0, .int .i64 0, .int .i64 0, .int .i64 0, .slice none 0 0, .slice none 0 0, .slice none 0 0, .slice none 0 0] 39)) (by kernel_rfl) (by rw [hs]; decide) ?z244 (lz.trans (((Below.refl _ _).alloc (Nat.le_refl _) _).mono lz.size)) ?z245
        case z244 => (intro o ho; obtain rfl := Option.some.inj ho; exact ⟨rfl, k_allocR rfl⟩)
        case z245 =>
        intro a F0
        replace hs := F0.z.trans hs
        replace hd := F0.e.trans hd
        replace h5 := (F0.n 5 (by decide)).trans h5
        replace h6 := (F0.n 6 (by decide)).trans h6
        replace h7 := (F0.n 7 (by decide)).trans h7
        replace h8 := (F0.n 8 (by decide)).trans h8
        replace h11 := (F0.n 11 (by decide)).trans h11
        replace h12 := (F0.n 12 (by decide)).trans h12
        replace h65 := (F0.n 65 (by decide)).trans h65
        replace h67 := (F0.n 67 (by decide)).trans h67
        replace h66 := (F0.n 66 (by decide)).trans h66
        replace h14 := (F0.n 14 (by decide)).trans h14
        have h13 := F0.s
        clear F0
        obtain ⟨u3, hwn⟩ : ∃ wn, wn = u2.alloc (.cells #[.int .i64 0, .int .i64 0, .int .i64 0, .int .i64 0, .slice none 0 0, .slice none 0 0, .slice none 0 0, .slice none 0 0] 39) := ⟨_, rfl⟩
        rw [← hwn]
        have qn : Blk u3 u2.heap.size 39 #[.int .i64 0, .int .i64 0, .int .i64 0, .int .i64 0, .slice none 0 0, .slice none 0 0, .slice none 0 0, .slice none 0 0] := by rw [hwn]; exact Blk.alloc _ _ _
        have ln : Below u2.heap.size u2 u3 := by rw [hwn]; exact (Below.refl _ _).alloc (Nat.le_refl _) _
        clear hwn
        have l := ln
        clear ln
        have hz2 := qn.lt
        have Q13 := qn
        clear qn
        replace lz := lz.trans (l.mono lz.size)
        replace Fp := Fp.below l
        replace Q14 := Q14.below l Q14.lt
        clear l
        refine heldL_one 3 (by kernel_rfl) ?z249
        case z249 =>
          have hc := make_any' F' I' E' C' U' AM' AD' AW' AP' cM' cD' cW' cP' lm' ld' lw' lp' u3 (hY.below lz)
          have hx := fun ops Q S fuel listed d a i h1 h2 h3 => cont_call (P := Tryd.prog) (ops := ops) (Q := Q) (S := S) (fuel := fuel) (listed := listed) (a := a) (w := u3) i d h1 h2 h3 hc
          refine hx _ _ _ _ _ 68 _ 3 ?z253 ?z254 ?z250 ?z252 ?z251
          case z253 => kernel_rfl
          case z254 => (rw [hs]; decide)
          case z250 => (intro o ho; obtain rfl := Option.some.inj ho; exact ⟨rfl, c_Make rfl rfl (ev_tmp h67)⟩)
          case z252 => (rintro _ _ ⟨_, _, _, _, _, _, _, _, _, _, _, rfl, _, l⟩; exact lz.trans (l.mono lz.size))
          case z251 =>
          clear hx hc
          rintro _ u4 a ⟨B1, B2, B3, B4, d1, d2, d3, d4, sD, sW, sP, rfl, Fq, l⟩ F0
          replace hs := F0.z.trans hs
          replace hd := F0.e.trans hd
          replace h5 := (F0.n 5 (by decide)).trans h5
          replace h6 := (F0.n 6 (by decide)).trans h6
          replace h7 := (F0.n 7 (by decide)).trans h7
          replace h8 := (F0.n 8 (by decide)).trans h8
          replace h11 := (F0.n 11 (by decide)).trans h11
          replace h12 := (F0.n 12 (by decide)).trans h12
          replace h65 := (F0.n 65 (by decide)).trans h65
          replace h67 := (F0.n 67 (by decide)).trans h67
          replace h66 := (F0.n 66 (by decide)).trans h66
          replace h14 := (F0.n 14 (by decide)).trans h14
          replace h13 := (F0.n 13 (by decide)).trans h13
          have h68 := F0.s
          clear F0
          have tq0 := fun g hg => (Fq.oM.lt g hg).2
          have tq1 := fun g hg => (Fq.oD.lt g hg).2
          have tq2 := fun g hg => (Fq.oW.lt g hg).2
          have tq3 := fun g hg => (Fq.oP.lt g hg).2
          have hz3 := l.size
          replace lz := lz.trans (l.mono lz.size)
          replace Fp := Fp.below l
          replace Q13 := Q13.below l Q13.lt
          replace Q14 := Q14.below l Q14.lt
          clear l
          have z0 := lz0.size
          have e6 := exc_setRow u4 (u2.heap.size) #[.int .i64 (F.tmod 4), .int .i64 (Mk.iv I), .int .i64 (Mk.cnt E C), .int .i64 (Mk.unt E U), .slice A1 (Mk.mon lm).length c1, .slice A2 (Mk.D F ld).length c2, .slice A3 ((Mk.W F lw).map (·.1)).length c3, .slice A4 (Mk.P F lm ld lw lp).length c4]
          have c13 := Q13.setRow (cs := #[.int .i64 (F.tmod 4), .int .i64 (Mk.iv I), .int .i64 (Mk.cnt E C), .int .i64 (Mk.unt E U), .slice A1 (Mk.mon lm).length c1, .slice A2 (Mk.D F ld).length c2, .slice A3 ((Mk.W F lw).map (·.1)).length c3, .slice A4 (Mk.P F lm ld lw lp).length c4])
          have c14 := Q14.exc (e6 u4.heap.size) Q14.lt (by omega)
          have Gp := Fp.exc (e6 u4.heap.size) (by omega) tp0 tp1 tp2 tp3
          have Gq := Fq.exc (e6 u4.heap.size) (by omega) tq0 tq1 tq2 tq3
          refine heldL_store 6 (w' := u4.setRow (u2.heap.size) #[.int .i64 (F.tmod 4), .int .i64 (Mk.iv I), .int .i64 (Mk.cnt E C), .int .i64 (Mk.unt E U), .slice A1 (Mk.mon lm).length c1, .slice A2 (Mk.D F ld).length c2, .slice A3 ((Mk.W F lw).map (·.1)).length c3, .slice A4 (Mk.P F lm ld lw lp).length c4]) (by kernel_rfl) (by kernel_rfl) ?z255 (lz.trans ((e6 w.heap.size).below (by omega))) ?z256
          case z255 => (intro o ho; obtain rfl := Option.some.inj ho; exact ⟨rfl, k_storeR rfl (ev_tmp h13) (ev_tmp h66) Q13 rfl rfl (by simp [Value.oneCell'])⟩)
          case z256 =>
          have e7 := exc_setRow (u4.setRow (u2.heap.size) #[.int .i64 (F.tmod 4), .int .i64 (Mk.iv I), .int .i64 (Mk.cnt E C), .int .i64 (Mk.unt E U), .slice A1 (Mk.mon lm).length c1, .slice A2 (Mk.D F ld).length c2, .slice A3 ((Mk.W F lw).map (·.1)).length c3, .slice A4 (Mk.P F lm ld lw lp).length c4]) (u1.heap.size) #[.int .i64 (F'.tmod 4), .int .i64 (Mk.iv I'), .int .i64 (Mk.cnt E' C'), .int .i64 (Mk.unt E' U'), .slice B1 (Mk.mon lm').length d1, .slice B2 (Mk.D F' ld').length d2, .slice B3 ((Mk.W F' lw').map (·.1)).length d3, .slice B4 (Mk.P F' lm' ld' lw' lp').length d4]
          have g14 := c14.setRow (cs := #[.int .i64 (F'.tmod 4), .int .i64 (Mk.iv I'), .int .i64 (Mk.cnt E' C'), .int .i64 (Mk.unt E' U'), .slice B1 (Mk.mon lm').length d1, .slice B2 (Mk.D F' ld').length d2, .slice B3 ((Mk.W F' lw').map (·.1)).length d3, .slice B4 (Mk.P F' lm' ld' lw' lp').length d4])
          have g13 := c13.exc (e7 _) c13.lt (by omega)
          have Hp := (Gp.exc (e7 _) (by omega) tp0 tp1 tp2 tp3).plain
          have Hq := (Gq.exc (e7 _) (by omega) tq0 tq1 tq2 tq3).plain
          have lzz := (lz.trans ((e6 w.heap.size).below (by omega))).trans ((e7 w.heap.size).below (by omega))
          refine heldL_store 7 (w' := (u4.setRow (u2.heap.size) #[.int .i64 (F.tmod 4), .int .i64 (Mk.iv I), .int .i64 (Mk.cnt E C), .int .i64 (Mk.unt E U), .slice A1 (Mk.mon lm).length c1, .slice A2 (Mk.D F ld).length c2, .slice A3 ((Mk.W F lw).map (·.1)).length c3, .slice A4 (Mk.P F lm ld lw lp).length c4]).setRow (u1.heap.size) #[.int .i64 (F'.tmod 4), .int .i64 (Mk.iv I'), .int .i64 (Mk.cnt E' C'), .int .i64 (Mk.unt E' U'), .slice B1 (Mk.mon lm').length d1, .slice B2 (Mk.D F' ld').length d2, .slice B3 ((Mk.W F' lw').map (·.1)).length d3, .slice B4 (Mk.P F' lm' ld' lw' lp').length d4]) (by kernel_rfl) (by kernel_rfl) ?z257 lzz ?z258
          case z257 => (intro o ho; obtain rfl := Option.some.inj ho; exact ⟨rfl, k_storeR rfl (ev_tmp h14) (ev_tmp h68) c14 rfl rfl (by simp [Value.oneCell'])⟩)
          case z258 =>
          refine wpAnyH_done (by kernel_rfl) ?_ _
          exact hR a _ _ _ A1 A2 A3 A4 B1 B2 B3 B4 c1 c2 c3 c4 d1 d2 d3 d4 hs hd h5 h6 h7 h11 h12 h13 h14 g13 g14 Hp Hq lzz
  case z138 =>
    refine cont_val 4 13 (v := .pointer (some ⟨u0.heap.size, 0, none⟩)) (w' := u0.alloc (.cells #[.int .i64 0, .int .i64 0, .int .i64 0, .int .i64 0, .slice none 0 0, .slice none 0 0, .slice none 0 0, .slice none 0 0] 39)) (by kernel_rfl) (by rw [hs]; decide) ?z259 (lz.trans (((Below.refl _ _).alloc (Nat.le_refl _) _).mono lz.size)) ?z260
    case z259 => (intro o ho; obtain rfl := Option.some.inj ho; exact ⟨rfl, k_allocR rfl⟩)
    case z260 =>
    intro a F0
    replace hs := F0.z.trans hs
    replace hd := F0.e.trans hd
    replace h5 := (F0.n 5 (by decide)).trans h5
    replace h6 := (F0.n 6 (by decide)).trans h6
    replace h7 := (F0.n 7 (by decide)).trans h7
    replace h8 := (F0.n 8 (by decide)).trans h8
    replace h11 := (F0.n 11 (by decide)).trans h11
    replace h12 := (F0.n 12 (by decide)).trans h12
    replace h65 := (F0.n 65 (by decide)).trans h65
    replace h67 := (F0.n 67 (by decide)).trans h67
    have h13 := F0.s
    clear F0
    obtain ⟨u1, hwn⟩ : ∃ wn, wn = u0.alloc (.cells #[.int .i64 0, .int .i64 0, .int .i64 0, .int .i64 0, .slice none 0 0, .slice none 0 0, .slice none 0 0, .slice none 0 0] 39) := ⟨_, rfl⟩
    rw [← hwn]
    have qn : Blk u1 u0.heap.size 39 #[.int .i64 0, .int .i64 0, .int .i64 0, .int .i64 0, .slice none 0 0, .slice none 0 0, .slice none 0 0, .slice none 0 0] := by rw [hwn]; exact Blk.alloc _ _ _
    have ln : Below u0.heap.size u0 u1 := by rw [hwn]; exact (Below.refl _ _).alloc (Nat.le_refl _) _
    clear hwn
    have l := ln
    clear ln
    have hz0 := qn.lt
    have Q13 := qn
    clear qn
    replace lz := lz.trans (l.mono lz.size)
    clear l
    refine heldL_two 1 5 (by kernel_rfl) ?z264 ?z265
    case z264 =>
      have hc := make_any' F I E C U AM AD AW AP cM cD cW cP lm ld lw lp u1 (hX.below lz)
      have hx := fun ops Q S fuel listed d a i h1 h2 h3 => cont_call (P := Tryd.prog) (ops := ops) (Q := Q) (S := S) (fuel := fuel) (listed := listed) (a := a) (w := u1) i d h1 h2 h3 hc
      refine hx _ _ _ _ _ 66 _ 1 ?z269 ?z270 ?z266 ?z268 ?z267
      case z269 => kernel_rfl
      case z270 => (rw [hs]; decide)
      case z266 => (intro o ho; obtain rfl := Option.some.inj ho; exact ⟨rfl, c_Make rfl rfl (ev_tmp h65)⟩)
      case z268 => (rintro _ _ ⟨_, _, _, _, _, _, _, _, _, _, _, rfl, _, l⟩; exact lz.trans (l.mono lz.size))
      case z267 =>
      clear hx hc
      rintro _ u2 a ⟨A1, A2, A3, A4, c1, c2, c3, c4, tD, tW, tP, rfl, Fp, l⟩ F0
      replace hs := F0.z.trans hs
      replace hd := F0.e.trans hd
      replace h5 := (F0.n 5 (by decide)).trans h5
      replace h6 := (F0.n 6 (by decide)).trans h6
      replace h7 := (F0.n 7 (by decide)).trans h7
      replace h8 := (F0.n 8 (by decide)).trans h8
      replace h11 := (F0.n 11 (by decide)).trans h11
      replace h12 := (F0.n 12 (by decide)).trans h12
      replace h65 := (F0.n 65 (by decide)).trans h65
      replace h67 := (F0.n 67 (by decide)).trans h67
      replace h13 := (F0.n 13 (by decide)).trans h13
      have h66 := F0.s
      clear F0
      have tp0 := fun g hg => (Fp.oM.lt g hg).2
      have tp1 := fun g hg => (Fp.oD.lt g hg).2
      have tp2 := fun g hg => (Fp.oW.lt g hg).2
      have tp3 := fun g hg => (Fp.oP.lt g hg).2
      have hz1 := l.size
      replace lz := lz.trans (l.mono lz.size)
      replace Q13 := Q13.below l Q13.lt
      clear l
      refine heldL_two 3 5 (by kernel_rfl) ?z271 ?z272
      case z271 =>
        have hc := make_any' F' I' E' C' U' AM' AD' AW' AP' cM' cD' cW' cP' lm' ld' lw' lp' u2 (hY.below lz)
        have hx := fun ops Q S fuel listed d a i h1 h2 h3 => cont_call (P := Tryd.prog) (ops := ops) (Q := Q) (S := S) (fuel := fuel) (listed := listed) (a := a) (w := u2) i d h1 h2 h3 hc
        refine hx _ _ _ _ _ 68 _ 3 ?z276 ?z277 ?z273 ?z275 ?z274
        case z276 => kernel_rfl
        case z277 => (rw [hs]; decide)
        case z273 => (intro o ho; obtain rfl := Option.some.inj ho; exact ⟨rfl, c_Make rfl rfl (ev_tmp h67)⟩)
        case z275 => (rintro _ _ ⟨_, _, _, _, _, _, _, _, _, _, _, rfl, _, l⟩; exact lz.trans (l.mono lz.size))
        case z274 =>
        clear hx hc
        rintro _ u3 a ⟨B1, B2, B3, B4, d1, d2, d3, d4, sD, sW, sP, rfl, Fq, l⟩ F0
        replace hs := F0.z.trans hs
        replace hd := F0.e.trans hd
        replace h5 := (F0.n 5 (by decide)).trans h5
        replace h6 := (F0.n 6 (by decide)).trans h6
        replace h7 := (F0.n 7 (by decide)).trans h7
        replace h8 := (F0.n 8 (by decide)).trans h8
        replace h11 := (F0.n 11 (by decide)).trans h11
        replace h12 := (F0.n 12 (by decide)).trans h12
        replace h65 := (F0.n 65 (by decide)).trans h65
        replace h67 := (F0.n 67 (by decide)).trans h67
        replace h13 := (F0.n 13 (by decide)).trans h13
        replace h66 := (F0.n 66 (by decide)).trans h66
        have h68 := F0.s
        clear F0
        have tq0 := fun g hg => (Fq.oM.lt g hg).2
        have tq1 := fun g hg => (Fq.oD.lt g hg).2
        have tq2 := fun g hg => (Fq.oW.lt g hg).2
        have tq3 := fun g hg => (Fq.oP.lt g hg).2
        have hz2 := l.size
        replace lz := lz.trans (l.mono lz.size)
        replace Fp := Fp.below l
        replace Q13 := Q13.below l Q13.lt
        clear l
        refine heldL_one 5 (by kernel_rfl) ?z278
        case z278 =>
          refine cont_val 5 14 (v := .pointer (some ⟨u3.heap.size, 0, none⟩)) (w' := u3.alloc (.cells #[.int .i64 0, .int .i64 0, .int .i64 0, .int .i64 0, .slice none 0 0, .slice none 0 0, .slice none 0 0, .slice none 0 0] 39)) (by kernel_rfl) (by rw [hs]; decide) ?z279 (lz.trans (((Below.refl _ _).alloc (Nat.le_refl _) _).mono lz.size)) ?z280
          case z279 => (intro o ho; obtain rfl := Option.some.inj ho; exact ⟨rfl, k_allocR rfl⟩)
          case z280 =>
          intro a F0
          replace hs := F0.z.trans hs
          replace hd := F0.e.trans hd
          replace h5 := (F0.n 5 (by decide)).trans h5
          replace h6 := (F0.n 6 (by decide)).trans h6
          replace h7 := (F0.n 7 (by decide)).trans h7
          replace h8 := (F0.n 8 (by decide)).trans h8
          replace h11 := (F0.n 11 (by decide)).trans h11
          replace h12 := (F0.n 12 (by decide)).trans h12
          replace h65 := (F0.n 65 (by decide)).trans h65
          replace h67 := (F0.n 67 (by decide)).trans h67
          replace h13 := (F0.n 13 (by decide)).trans h13
          replace h66 := (F0.n 66 (by decide)).trans h66
          replace h68 := (F0.n 68 (by decide)).trans h68
          have h14 := F0.s
          clear F0
          obtain ⟨u4, hwn⟩ : ∃ wn, wn = u3.alloc (.cells #[.int .i64 0, .int .i64 0, .int .i64 0, .int .i64 0, .slice none 0 0, .slice none 0 0, .slice none 0 0, .slice none 0 0] 39) := ⟨_, rfl⟩
          rw [← hwn]
          have qn : Blk u4 u3.heap.size 39 #[.int .i64 0, .int .i64 0, .int .i64 0, .int .i64 0, .slice none 0 0, .slice none 0 0, .slice none 0 0, .slice none 0 0] := by rw [hwn]; exact Blk.alloc _ _ _
          have ln : Below u3.heap.size u3 u4 := by rw [hwn]; exact (Below.refl _ _).alloc (Nat.le_refl _) _
          clear hwn
          have l := ln
          clear ln
          have hz3 := qn.lt
          have Q14 := qn
          clear qn
          replace lz := lz.trans (l.mono lz.size)
          replace Fp := Fp.below l
          replace Fq := Fq.below l
          replace Q13 := Q13.below l Q13.lt
          clear l
          have z0 := lz0.size
          have e6 := exc_setRow u4 (u0.heap.size) #[.int .i64 (F.tmod 4), .int .i64 (Mk.iv I), .int .i64 (Mk.cnt E C), .int .i64 (Mk.unt E U), .slice A1 (Mk.mon lm).length c1, .slice A2 (Mk.D F ld).length c2, .slice A3 ((Mk.W F lw).map (·.1)).length c3, .slice A4 (Mk.P F lm ld lw lp).length c4]
          have c13 := Q13.setRow (cs := #[.int .i64 (F.tmod 4), .int .i64 (Mk.iv I), .int .i64 (Mk.cnt E C), .int .i64 (Mk.unt E U), .slice A1 (Mk.mon lm).length c1, .slice A2 (Mk.D F ld).length c2, .slice A3 ((Mk.W F lw).map (·.1)).length c3, .slice A4 (Mk.P F lm ld lw lp).length c4])
          have c14 := Q14.exc (e6 u4.heap.size) Q14.lt (by omega)
          have Gp := Fp.exc (e6 u4.heap.size) (by omega) tp0 tp1 tp2 tp3
          have Gq := Fq.exc (e6 u4.heap.size) (by omega) tq0 tq1 tq2 tq3
          refine heldL_store 6 (w' := u4.setRow (u0.heap.size) #[.int .i64 (F.tmod 4), .int .i64 (Mk.iv I), .int .i64 (Mk.cnt E C), .int .i64 (Mk.unt E U), .slice A1 (Mk.mon lm).length c1, .slice A2 (Mk.D F ld).length c2, .slice A3 ((Mk.W F lw).map (·.1)).length c3, .slice A4 (Mk.P F lm ld lw lp).length c4]) (by kernel_rfl) (by kernel_rfl) ?z284 (lz.trans ((e6 w.heap.size).below (by omega))) ?z285
          case z284 => (intro o ho; obtain rfl := Option.some.inj ho; exact ⟨rfl, k_storeR rfl (ev_tmp h13) (ev_tmp h66) Q13 rfl rfl (by simp [Value.oneCell'])⟩)
          case z285 =>
          have e7 := exc_setRow (u4.setRow (u0.heap.size) #[.int .i64 (F.tmod 4), .int .i64 (Mk.iv I), .int .i64 (Mk.cnt E C), .int .i64 (Mk.unt E U), .slice A1 (Mk.mon lm).length c1, .slice A2 (Mk.D F ld).length c2, .slice A3 ((Mk.W F lw).map (·.1)).length c3, .slice A4 (Mk.P F lm ld lw lp).length c4]) (u3.heap.size) #[.int .i64 (F'.tmod 4), .int .i64 (Mk.iv I'), .int .i64 (Mk.cnt E' C'), .int .i64 (Mk.unt E' U'), .slice B1 (Mk.mon lm').length d1, .slice B2 (Mk.D F' ld').length d2, .slice B3 ((Mk.W F' lw').map (·.1)).length d3, .slice B4 (Mk.P F' lm' ld' lw' lp').length d4]
          have g14 := c14.setRow (cs := #[.int .i64 (F'.tmod 4), .int .i64 (Mk.iv I'), .int .i64 (Mk.cnt E' C'), .int .i64 (Mk.unt E' U'), .slice B1 (Mk.mon lm').length d1, .slice B2 (Mk.D F' ld').length d2, .slice B3 ((Mk.W F' lw').map (·.1)).length d3, .slice B4 (Mk.P F' lm' ld' lw' lp').length d4])
          have g13 := c13.exc (e7 _) c13.lt (by omega)
          have Hp := (Gp.exc (e7 _) (by omega) tp0 tp1 tp2 tp3).plain
          have Hq := (Gq.exc (e7 _) (by omega) tq0 tq1 tq2 tq3).plain
          have lzz := (lz.trans ((e6 w.heap.size).below (by omega))).trans ((e7 w.heap.size).below (by omega))
          refine heldL_store 7 (w' := (u4.setRow (u0.heap.size) #[.int .i64 (F.tmod 4), .int .i64 (Mk.iv I), .int .i64 (Mk.cnt E C), .int .i64 (Mk.unt E U), .slice A1 (Mk.mon lm).length c1, .slice A2 (Mk.D F ld).length c2, .slice A3 ((Mk.W F lw).map (·.1)).length c3, .slice A4 (Mk.P F lm ld lw lp).length c4]).setRow (u3.heap.size) #[.int .i64 (F'.tmod 4), .int .i64 (Mk.iv I'), .int .i64 (Mk.cnt E' C'), .int .i64 (Mk.unt E' U'), .slice B1 (Mk.mon lm').length d1, .slice B2 (Mk.D F' ld').length d2, .slice B3 ((Mk.W F' lw').map (·.1)).length d3, .slice B4 (Mk.P F' lm' ld' lw' lp').length d4]) (by kernel_rfl) (by kernel_rfl) ?z286 lzz ?z287
          case z286 => (intro o ho; obtain rfl := Option.some.inj ho; exact ⟨rfl, k_storeR rfl (ev_tmp h14) (ev_tmp h68) c14 rfl rfl (by simp [Value.oneCell'])⟩)
          case z287 =>
          refine wpAnyH_done (by kernel_rfl) ?_ _
          exact hR a _ _ _ A1 A2 A3 A4 B1 B2 B3 B4 c1 c2 c3 c4 d1 d2 d3 d4 hs hd h5 h6 h7 h11 h12 h13 h14 g13 g14 Hp Hq lzz
      case z272 =>
        refine cont_val 5 14 (v := .pointer (some ⟨u2.heap.size, 0, none⟩)) (w' := u2.alloc (.cells #[.int .i64 0, .int .i64 0, .int .i64 0, .int .i64 0, .slice none 0 0, .slice none 0 0, .slice none 0 0, .slice none 0 0] 39)) (by kernel_rfl) (by rw [hs]; decide) ?z288 (lz.trans (((Below.refl _ _).alloc (Nat.le_refl _) _).mono lz.size)) ?z289
        case z288 => (intro o ho; obtain rfl := Option.some.inj ho; exact ⟨rfl, k_allocR rfl⟩)
        case z289 =>
        intro a F0
        replace hs := F0.z.trans hs
        replace hd := F0.e.trans hd
        replace h5 := (F0.n 5 (by decide)).trans h5
        replace h6 := (F0.n 6 (by decide)).trans h6
        replace h7 := (F0.n 7 (by decide)).trans h7
        replace h8 := (F0.n 8 (by decide)).trans h8
        replace h11 := (F0.n 11 (by decide)).trans h11
        replace h12 := (F0.n 12 (by decide)).trans h12
        replace h65 := (F0.n 65 (by decide)).trans h65
        replace h67 := (F0.n 67 (by decide)).trans h67
        replace h13 := (F0.n 13 (by decide)).trans h13
        replace h66 := (F0.n 66 (by decide)).trans h66
        have h14 := F0.s
        clear F0
        obtain ⟨u3, hwn⟩ : ∃ wn, wn = u2.alloc (.cells #[.int .i64 0, .int .i64 0, .int .i64 0, .int .i64 0, .slice none 0 0, .slice none 0 0, .slice none 0 0, .slice none 0 0] 39) := ⟨_, rfl⟩
        rw [← hwn]
        have qn : Blk u3 u2.heap.size 39 #[.int .i64 0, .int .i64 0, .int .i64 0, .int .i64 0, .slice none 0 0, .slice none 0 0, .slice none 0 0, .slice none 0 0] := by rw [hwn]; exact Blk.alloc _ _ _
        have ln : Below u2.heap.size u2 u3 := by rw [hwn]; exact (Below.refl _ _).alloc (Nat.le_refl _) _
        clear hwn
        have l := ln
        clear ln
        have hz2 := qn.lt
        have Q14 := qn
        clear qn
        replace lz := lz.trans (l.mono lz.size)
        replace Fp := Fp.below l
        replace Q13 := Q13.below l Q13.lt
        clear l
        refine heldL_one 3 (by kernel_rfl) ?z293
        case z293 =>
          have hc := make_any' F' I' E' C' U' AM' AD' AW' AP' cM' cD' cW' cP' lm' ld' lw' lp' u3 (hY.below lz)
          have hx := fun ops Q S fuel listed d a i h1 h2 h3 => cont_call (P := Tryd.prog) (ops := ops) (Q := Q) (S := S) (fuel := fuel) (listed := listed) (a := a) (w := u3) i d h1 h2 h3 hc
          refine hx _ _ _ _ _ 68 _ 3 ?z297 ?z298 ?z294 ?z296 ?z295
          case z297 => kernel_rfl
          case z298 => (rw [hs]; decide)
          case z294 => (intro o ho; obtain rfl := Option.some.inj ho; exact ⟨rfl, c_Make rfl rfl (ev_tmp h67)⟩)
          case z296 => (rintro _ _ ⟨_, _, _, _, _, _, _, _, _, _, _, rfl, _, l⟩; exact lz.trans (l.mono lz.size))
          case z295 =>
          clear hx hc
          rintro _ u4 a ⟨B1, B2, B3, B4, d1, d2, d3, d4, sD, sW, sP, rfl, Fq, l⟩ F0
          replace hs := F0.z.trans hs
          replace hd := F0.e.trans hd
          replace h5 := (F0.n 5 (by decide)).trans h5
          replace h6 := (F0.n 6 (by decide)).trans h6
          replace h7 := (F0.n 7 (by decide)).trans h7
          replace h8 := (F0.n 8 (by decide)).trans h8
          replace h11 := (F0.n 11 (by decide)).trans h11
          replace h12 := (F0.n 12 (by decide)).trans h12
          replace h65 := (F0.n 65 (by decide)).trans h65
          replace h67 := (F0.n 67 (by decide)).trans h67
          replace h13 := (F0.n 13 (by decide)).trans h13
          replace h66 := (F0.n 66 (by decide)).trans h66
          replace h14 := (F0.n 14 (by decide)).trans h14
          have h68 := F0.s
          clear F0
          have tq0 := fun g hg => (Fq.oM.lt g hg).2
          have tq1 := fun g hg => (Fq.oD.lt g hg).2
          have tq2 := fun g hg => (Fq.oW.lt g hg).2
          have tq3 := fun g hg => (Fq.oP.lt g hg).2
          have hz3 := l.size
          replace lz := lz.trans (l.mono lz.size)
          replace Fp := Fp.below l
          replace Q13 := Q13.below l Q13.lt
          replace Q14 := Q14.below l Q14.lt
          clear l
          have z0 := lz0.size
          have e6 := exc_setRow u4 (u0.heap.size) #[.int .i64 (F.tmod 4), .int .i64 (Mk.iv I), .int .i64 (Mk.cnt E C), .int .i64 (Mk.unt E U), .slice A1 (Mk.mon lm).length c1, .slice A2 (Mk.D F ld).length c2, .slice A3 ((Mk.W F lw).map (·.1)).length c3, .slice A4 (Mk.P F lm ld lw lp).length c4]
          have c13 := Q13.setRow (cs := #[.int .i64 (F.tmod 4), .int .i64 (Mk.iv I), .int .i64 (Mk.cnt E C), .int .i64 (Mk.unt E U), .slice A1 (Mk.mon lm).length c1, .slice A2 (Mk.D F ld).length c2, .slice A3 ((Mk.W F lw).map (·.1)).length c3, .slice A4 (Mk.P F lm ld lw lp).length c4])
          have c14 := Q14.exc (e6 u4.heap.size) Q14.lt (by omega)
          have Gp := Fp.exc (e6 u4.heap.size) (by omega) tp0 tp1 tp2 tp3
          have Gq := Fq.exc (e6 u4.heap.size) (by omega) tq0 tq1 tq2 tq3
          refine heldL_store 6 (w' := u4.setRow (u0.heap.size) #[.int .i64 (F.tmod 4), .int .i64 (Mk.iv I), .int .i64 (Mk.cnt E C), .int .i64 (Mk.unt E U), .slice A1 (Mk.mon lm).length c1, .slice A2 (Mk.D F ld).length c2, .slice A3 ((Mk.W F lw).map (·.1)).length c3, .slice A4 (Mk.P F lm ld lw lp).length c4]) (by kernel_rfl) (by kernel_rfl) ?z299 (lz.trans ((e6 w.heap.size).below (by omega))) ?z300
          case z299 => (intro o ho; obtain rfl := Option.some.inj ho; exact ⟨rfl, k_storeR rfl (ev_tmp h13) (ev_tmp h66) Q13 rfl rfl (by simp [Value.oneCell'])⟩)
          case z300 =>
          have e7 := exc_setRow (u4.setRow (u0.heap.size) #[.int .i64 (F.tmod 4), .int .i64 (Mk.iv I), .int .i64 (Mk.cnt E C), .int .i64 (Mk.unt E U), .slice A1 (Mk.mon lm).length c1, .slice A2 (Mk.D F ld).length c2, .slice A3 ((Mk.W F lw).map (·.1)).length c3, .slice A4 (Mk.P F lm ld lw lp).length c4]) (u2.heap.size) #[.int .i64 (F'.tmod 4), .int .i64 (Mk.iv I'), .int .i64 (Mk.cnt E' C'), .int .i64 (Mk.unt E' U'), .slice B1 (Mk.mon lm').length d1, .slice B2 (Mk.D F' ld').length d2, .slice B3 ((Mk.W F' lw').map (·.1)).length d3, .slice B4 (Mk.P F' lm' ld' lw' lp').length d4]
          have g14 := c14.setRow (cs := #[.int .i64 (F'.tmod 4), .int .i64 (Mk.iv I'), .int .i64 (Mk.cnt E' C'), .int .i64 (Mk.unt E' U'), .slice B1 (Mk.mon lm').length d1, .slice B2 (Mk.D F' ld').length d2, .slice B3 ((Mk.W F' lw').map (·.1)).length d3, .slice B4 (Mk.P F' lm' ld' lw' lp').length d4])
          have g13 := c13.exc (e7 _) c13.lt (by omega)
          have Hp := (Gp.exc (e7 _) (by omega) tp0 tp1 tp2 tp3).plain
          have Hq := (Gq.exc (e7 _) (by omega) tq0 tq1 tq2 tq3).plain
          have lzz := (lz.trans ((e6 w.heap.size).below (by omega))).trans ((e7 w.heap.size).below (by omega))
          refine heldL_store 7 (w' := (u4.setRow (u0.heap.size) #[.int .i64 (F.tmod 4), .int .i64 (Mk.iv I), .int .i64 (Mk.cnt E C), .int .i64 (Mk.unt E U), .slice A1 (Mk.mon lm).length c1, .slice A2 (Mk.D F ld).length c2, .slice A3 ((Mk.W F lw).map (·.1)).length c3, .slice A4 (Mk.P F lm ld lw lp).length c4]).setRow (u2.heap.size) #[.int .i64 (F'.tmod 4), .int .i64 (Mk.iv I'), .int .i64 (Mk.cnt E' C'), .int .i64 (Mk.unt E' U'), .slice B1 (Mk.mon lm').length d1, .slice B2 (Mk.D F' ld').length d2, .slice B3 ((Mk.W F' lw').map (·.1)).length d3, .slice B4 (Mk.P F' lm' ld' lw' lp').length d4]) (by kernel_rfl) (by kernel_rfl) ?z301 lzz ?z302
          case z301 => (intro o ho; obtain rfl := Option.some.inj ho; exact ⟨rfl, k_storeR rfl (ev_tmp h14) (ev_tmp h68) c14 rfl rfl (by simp [Value.oneCell'])⟩)
          case z302 =>
          refine wpAnyH_done (by kernel_rfl) ?_ _
          exact hR a _ _ _ A1 A2 A3 A4 B1 B2 B3 B4 c1 c2 c3 c4 d1 d2 d3 d4 hs hd h5 h6 h7 h11 h12 h13 h14 g13 g14 Hp Hq lzz
    case z265 =>
      refine cont_val 5 14 (v := .pointer (some ⟨u1.heap.size, 0, none⟩)) (w' := u1.alloc (.cells #[.int .i64 0, .int .i64 0, .int .i64 0, .int .i64 0, .slice none 0 0, .slice none 0 0, .slice none 0 0, .slice none 0 0] 39)) (by kernel_rfl) (by rw [hs]; decide) ?z303 (lz.trans (((Below.refl _ _).alloc (Nat.le_refl _) _).mono lz.size)) ?z304
      case z303 => (intro o ho; obtain rfl := Option.some.inj ho; exact ⟨rfl, k_allocR rfl⟩)
      case z304 =>
      intro a F0
      replace hs := F0.z.trans hs
      replace hd := F0.e.trans hd
      replace h5 := (F0.n 5 (by decide)).trans h5
      replace h6 := (F0.n 6 (by decide)).trans h6
      replace h7 := (F0.n 7 (by decide)).trans h7
      replace h8 := (F0.n 8 (by decide)).trans h8
      replace h11 := (F0.n 11 (by decide)).trans h11
      replace h12 := (F0.n 12 (by decide)).trans h12
      replace h65 := (F0.n 65 (by decide)).trans h65
      replace h67 := (F0.n 67 (by decide)).trans h67
      replace h13 := (F0.n 13 (by decide)).trans h13
      have h14 := F0.s
      clear F0
      obtain ⟨u2, hwn⟩ : ∃ wn, wn = u1.alloc (.cells #[.int .i64 0, .int .i64 0, .int .i64 0, .int .i64 0, .slice none 0 0, .slice none 0 0, .slice none 0 0, .slice none 0 0] 39) := ⟨_, rfl⟩
      rw [← hwn]
      have qn : Blk u2 u1.heap.size 39 #[.int .i64 0, .int .i64 0, .int .i64 0, .int .i64 0, .slice none 0 0, .slice none 0 0, .slice none 0 0, .slice none 0 0] := by rw [hwn]; exact Blk.alloc _ _ _
      have ln : Below u1.heap.size u1 u2 := by rw [hwn]; exact (Below.refl _ _).alloc (Nat.le_refl _) _
      clear hwn
      have l := ln
      clear ln
      have hz1 := qn.lt
      have Q14 := qn
      clear qn
      replace lz := lz.trans (l.mono lz.size)
      replace Q13 := Q13.below l Q13.lt
      clear l
      refine heldL_one 1 (by kernel_rfl) ?z308
      case z308 =>
        have hc := make_any' F I E C U AM AD AW AP cM cD cW cP lm ld lw lp u2 (hX.below lz)
        have hx := fun ops Q S fuel listed d a i h1 h2 h3 => cont_call (P := Tryd.prog) (ops := ops) (Q := Q) (S := S) (fuel := fuel) (listed := listed) (a := a) (w := u2) i d h1 h2 h3 hc
        refine hx _ _ _ _ _ 66 _ 1 ?z312 ?z313 ?z309 ?z311 ?z310
        case z312 => kernel_rfl
        case z313 => (rw [hs]; decide)
        case z309 => (intro o ho; obtain rfl := Option.some.inj ho; exact ⟨rfl, c_Make rfl rfl (ev_tmp h65)⟩)
        case z311 => (rintro _ _ ⟨_, _, _, _, _, _, _, _, _, _, _, rfl, _, l⟩; exact lz.trans (l.mono lz.size))
        case z310 =>
        clear hx hc
        rintro _ u3 a ⟨A1, A2, A3, A4, c1, c2, c3, c4, tD, tW, tP, rfl, Fp, l⟩ F0
        replace hs := F0.z.trans hs
        replace hd := F0.e.trans hd
        replace h5 := (F0.n 5 (by decide)).trans h5
        replace h6 := (F0.n 6 (by decide)).trans h6
        replace h7 := (F0.n 7 (by decide)).trans h7
        replace h8 := (F0.n 8 (by decide)).trans h8
        replace h11 := (F0.n 11 (by decide)).trans h11
        replace h12 := (F0.n 12 (by decide)).trans h12
        replace h65 := (F0.n 65 (by decide)).trans h65
        replace h67 := (F0.n 67 (by decide)).trans h67
        replace h13 := (F0.n 13 (by decide)).trans h13
        replace h14 := (F0.n 14 (by decide)).trans h14
        have h66 := F0.s
        clear F0
        have tp0 := fun g hg => (Fp.oM.lt g hg).2
        have tp1 := fun g hg => (Fp.oD.lt g hg).2
        have tp2 := fun g hg => (Fp.oW.lt g hg).2
        have tp3 := fun g hg => (Fp.oP.lt g hg).2
        have hz2 := l.size
        replace lz := lz.trans (l.mono lz.size)
        replace Q13 := Q13.below l Q13.lt
        replace Q14 := Q14.below l Q14.lt
        clear l
        refine heldL_one 3 (by kernel_rfl) ?z314
        case z314 =>
          have hc := make_any' F' I' E' C' U' AM' AD' AW' AP' cM' cD' cW' cP' lm' ld' lw' lp' u3 (hY.below lz)
          have hx := fun ops Q S fuel listed d a i h1 h2 h3 => cont_call (P := Tryd.prog) (ops := ops) (Q := Q) (S := S) (fuel := fuel) (listed := listed) (a := a) (w := u3) i d h1 h2 h3 hc
          refine hx _ _ _ _ _ 68 _ 3 ?z318 ?z319 ?z315 ?z317 ?z316
          case z318 => kernel_rfl
          case z319 => (rw [hs]; decide)
          case z315 => (intro o ho; obtain rfl := Option.some.inj ho; exact ⟨rfl, c_Make rfl rfl (ev_tmp h67)⟩)
          case z317 => (rintro _ _ ⟨_, _, _, _, _, _, _, _, _, _, _, rfl, _, l⟩; exact lz.trans (l.mono lz.size))
          case z316 =>
          clear hx hc
          rintro _ u4 a ⟨B1, B2, B3, B4, d1, d2, d3, d4, sD, sW, sP, rfl, Fq, l⟩ F0
          replace hs := F0.z.trans hs
          replace hd := F0.e.trans hd
          replace h5 := (F0.n 5 (by decide)).trans h5
          replace h6 := (F0.n 6 (by decide)).trans h6
          replace h7 := (F0.n 7 (by decide)).trans h7
          replace h8 := (F0.n 8 (by decide)).trans h8
          replace h11 := (F0.n 11 (by decide)).trans h11
          replace h12 := (F0.n 12 (by decide)).trans h12
          replace h65 := (F0.n 65 (by decide)).trans h65
          replace h67 := (F0.n 67 (by decide)).trans h67
          replace h13 := (F0.n 13 (by decide)).trans h13
          replace h14 := (F0.n 14 (by decide)).trans h14
          replace h66 := (F0.n 66 (by decide)).trans h66
          have h68 := F0.s
          clear F0
          have tq0 := fun g hg => (Fq.oM.lt g hg).2
          have tq1 := fun g hg => (Fq.oD.lt g hg).2
          have tq2 := fun g hg => (Fq.oW.lt g hg).2
          have tq3 := fun g hg => (Fq.oP.lt g hg).2
          have hz3 := l.size
          replace lz := lz.trans (l.mono lz.size)
          replace Fp := Fp.below l
          replace Q13 := Q13.below l Q13.lt
          replace Q14 := Q14.below l Q14.lt
          clear l
          have z0 := lz0.size
          have e6 := exc_setRow u4 (u0.heap.size) #[.int .i64 (F.tmod 4), .int .i64 (Mk.iv I), .int .i64 (Mk.cnt E C), .int .i64 (Mk.unt E U), .slice A1 (Mk.mon lm).length c1, .slice A2 (Mk.D F ld).length c2, .slice A3 ((Mk.W F lw).map (·.1)).length c3, .slice A4 (Mk.P F lm ld lw lp).length c4]
          have c13 := Q13.setRow (cs := #[.int .i64 (F.tmod 4), .int .i64 (Mk.iv I), .int .i64 (Mk.cnt E C), .int .i64 (Mk.unt E U), .slice A1 (Mk.mon lm).length c1, .slice A2 (Mk.D F ld).length c2, .slice A3 ((Mk.W F lw).map (·.1)).length c3, .slice A4 (Mk.P F lm ld lw lp).length c4])
          have c14 := Q14.exc (e6 u4.heap.size) Q14.lt (by omega)
          have Gp := Fp.exc (e6 u4.heap.size) (by omega) tp0 tp1 tp2 tp3
          have Gq := Fq.exc (e6 u4.heap.size) (by omega) tq0 tq1 tq2 tq3
          refine heldL_store 6 (w' := u4.setRow (u0.heap.size) #[.int .i64 (F.tmod 4), .int .i64 (Mk.iv I), .int .i64 (Mk.cnt E C), .int .i64 (Mk.unt E U), .slice A1 (Mk.mon lm).length c1, .slice A2 (Mk.D F ld).length c2, .slice A3 ((Mk.W F lw).map (·.1)).length c3, .slice A4 (Mk.P F lm ld lw lp).length c4]) (by kernel_rfl) (by kernel_rfl) ?z320 (lz.trans ((e6 w.heap.size).below (by omega))) ?z321
          case z320 => (intro o ho; obtain rfl := Option.some.inj ho; exact ⟨rfl, k_storeR rfl (ev_tmp h13) (ev_tmp h66) Q13 rfl rfl (by simp [Value.oneCell'])⟩)
          case z321 =>
          have e7 := exc_setRow (u4.setRow (u0.heap.size) #[.int .i64 (F.tmod 4), .int .i64 (Mk.iv I), .int .i64 (Mk.cnt E C), .int .i64 (Mk.unt E U), .slice A1 (Mk.mon lm).length c1, .slice A2 (Mk.D F ld).length c2, .slice A3 ((Mk.W F lw).map (·.1)).length c3, .slice A4 (Mk.P F lm ld lw lp).length c4]) (u1.heap.size) #[.int .i64 (F'.tmod 4), .int .i64 (Mk.iv I'), .int .i64 (Mk.cnt E' C'), .int .i64 (Mk.unt E' U'), .slice B1 (Mk.mon lm').length d1, .slice B2 (Mk.D F' ld').length d2, .slice B3 ((Mk.W F' lw').map (·.1)).length d3, .slice B4 (Mk.P F' lm' ld' lw' lp').length d4]
          have g14 := c14.setRow (cs := #[.int .i64 (F'.tmod 4), .int .i64 (Mk.iv I'), .int .i64 (Mk.cnt E' C'), .int .i64 (Mk.unt E' U'), .slice B1 (Mk.mon lm').length d1, .slice B2 (Mk.D F' ld').length d2, .slice B3 ((Mk.W F' lw').map (·.1)).length d3, .slice B4 (Mk.P F' lm' ld' lw' lp').length d4])
          have g13 := c13.exc (e7 _) c13.lt (by omega)
          have Hp := (Gp.exc (e7 _) (by omega) tp0 tp1 tp2 tp3).plain
          have Hq := (Gq.exc (e7 _) (by omega) tq0 tq1 tq2 tq3).plain
          have lzz := (lz.trans ((e6 w.heap.size).below (by omega))).trans ((e7 w.heap.size).below (by omega))
          refine heldL_store 7 (w' := (u4.setRow (u0.heap.size) #[.int .i64 (F.tmod 4), .int .i64 (Mk.iv I), .int .i64 (Mk.cnt E C), .int .i64 (Mk.unt E U), .slice A1 (Mk.mon lm).length c1, .slice A2 (Mk.D F ld).length c2, .slice A3 ((Mk.W F lw).map (·.1)).length c3, .slice A4 (Mk.P F lm ld lw lp).length c4]).setRow (u1.heap.size) #[.int .i64 (F'.tmod 4), .int .i64 (Mk.iv I'), .int .i64 (Mk.cnt E' C'), .int .i64 (Mk.unt E' U'), .slice B1 (Mk.mon lm').length d1, .slice B2 (Mk.D F' ld').length d2, .slice B3 ((Mk.W F' lw').map (·.1)).length d3, .slice B4 (Mk.P F' lm' ld' lw' lp').length d4]) (by kernel_rfl) (by kernel_rfl) ?z322 lzz ?z323
          case z322 => (intro o ho; obtain rfl := Option.some.inj ho; exact ⟨rfl, k_storeR rfl (ev_tmp h14) (ev_tmp h68) c14 rfl rfl (by simp [Value.oneCell'])⟩)
          case z323 =>
          refine wpAnyH_done (by kernel_rfl) ?_ _
          exact hR a _ _ _ A1 A2 A3 A4 B1 B2 B3 B4 c1 c2 c3 c4 d1 d2 d3 d4 hs hd h5 h6 h7 h11 h12 h13 h14 g13 g14 Hp Hq lzz
  case z139 =>
    refine cont_val 5 14 (v := .pointer (some ⟨u0.heap.size, 0, none⟩)) (w' := u0.alloc (.cells #[.int .i64 0, .int .i64 0, .int .i64 0, .int .i64 0, .slice none 0 0, .slice none 0 0, .slice none 0 0, .slice none 0 0] 39)) (by kernel_rfl) (by rw [hs]; decide) ?z324 (lz.trans (((Below.refl _ _).alloc (Nat.le_refl _) _).mono lz.size)) ?z325
    case z324 => (intro o ho; obtain rfl := Option.some.inj ho; exact ⟨rfl, k_allocR rfl⟩)
    case z325 =>
    intro a F0
    replace hs := F0.z.trans hs
    replace hd := F0.e.trans hd
    replace h5 := (F0.n 5 (by decide)).trans h5
    replace h6 := (F0.n 6 (by decide)).trans h6
    replace h7 := (F0.n 7 (by decide)).trans h7
    replace h8 := (F0.n 8 (by decide)).trans h8
    replace h11 := (F0.n 11 (by decide)).trans h11
    replace h12 := (F0.n 12 (by decide)).trans h12
    replace h65 := (F0.n 65 (by decide)).trans h65
    replace h67 := (F0.n 67 (by decide)).trans h67
    have h14 := F0.s
    clear F0
    obtain ⟨u1, hwn⟩ : ∃ wn, wn = u0.alloc (.cells #[.int .i64 0, .int .i64 0, .int .i64 0, .int .i64 0, .slice none 0 0, .slice none 0 0, .slice none 0 0, .slice none 0 0] 39) := ⟨_, rfl⟩
    rw [← hwn]
    have qn : Blk u1 u0.heap.size 39 #[.int .i64 0, .int .i64 0, .int .i64 0, .int .i64 0, .slice none 0 0, .slice none 0 0, .slice none 0 0, .slice none 0 0] := by rw [hwn]; exact Blk.alloc _ _ _
    have ln : Below u0.heap.size u0 u1 := by rw [hwn]; exact (Below.refl _ _).alloc (Nat.le_refl _) _
    clear hwn
    have l := ln
    clear ln
    have hz0 := qn.lt
    have Q14 := qn
    clear qn
    replace lz := lz.trans (l.mono lz.size)
    clear l
    refine heldL_two 1 4 (by kernel_rfl) ?z329 ?z330
    case z329 =>
      have hc := make_any' F I E C U AM AD AW AP cM cD cW cP lm ld lw lp u1 (hX.below lz)
      have hx := fun ops Q S fuel listed d a i h1 h2 h3 => cont_call (P := Tryd.prog) (ops := ops) (Q := Q) (S := S) (fuel := fuel) (listed := listed) (a := a) (w := u1) i d h1 h2 h3 hc
      refine hx _ _ _ _ _ 66 _ 1 ?z334 ?z335 ?z331 ?z333 ?z332
      case z334 => kernel_rfl
      case z335 => (rw [hs]; decide)
      case z331 => (intro o ho; obtain rfl := Option.some.inj ho; exact ⟨rfl, c_Make rfl rfl (ev_tmp h65)⟩)
      case z333 => (rintro _ _ ⟨_, _, _, _, _, _, _, _, _, _, _, rfl, _, l⟩; exact lz.trans (l.mono lz.size))
      case z332 =>
      clear hx hc
      rintro _ u2 a ⟨A1, A2, A3, A4, c1, c2, c3, c4, tD, tW, tP, rfl, Fp, l⟩ F0
      replace hs := F0.z.trans hs
      replace hd := F0.e.trans hd
      replace h5 := (F0.n 5 (by decide)).trans h5
      replace h6 := (F0.n 6 (by decide)).trans h6
      replace h7 := (F0.n 7 (by decide)).trans h7
      replace h8 := (F0.n 8 (by decide)).trans h8
      replace h11 := (F0.n 11 (by decide)).trans h11
      replace h12 := (F0.n 12 (by decide)).trans h12
      replace h65 := (F0.n 65 (by decide)).trans h65
      replace h67 := (F0.n 67 (by decide)).trans h67
      replace h14 := (F0.n 14 (by decide)).trans h14
      have h66 := F0.s
      clear F0
      have tp0 := fun g hg => (Fp.oM.lt g hg).2
      have tp1 := fun g hg => (Fp.oD.lt g hg).2
      have tp2 := fun g hg => (Fp.oW.lt g hg).2
      have tp3 := fun g hg => (Fp.oP.lt g hg).2
      have hz1 := l.size
      replace lz := lz.trans (l.mono lz.size)
      replace Q14 := Q14.below l Q14.lt
      clear l
      refine heldL_two 3 4 (by kernel_rfl) ?z336 ?z337
      case z336 =>
        have hc := make_any' F' I' E' C' U' AM' AD' AW' AP' cM' cD' cW' cP' lm' ld' lw' lp' u2 (hY.below lz)
        have hx := fun ops Q S fuel listed d a i h1 h2 h3 => cont_call (P := Tryd.prog) (ops := ops) (Q := Q) (S := S) (fuel := fuel) (listed := listed) (a := a) (w := u2) i d h1 h2 h3 hc
        refine hx _ _ _ _ _ 68 _ 3 ?z341 ?z342 ?z338 ?z340 ?z339
        case z341 => kernel_rfl
        case z342 => (rw [hs]; decide)
        case z338 => (intro o ho; obtain rfl := Option.some.inj ho; exact ⟨rfl, c_Make rfl rfl (ev_tmp h67)⟩)
        case z340 => (rintro _ _ ⟨_, _, _, _, _, _, _, _, _, _, _, rfl, _, l⟩; exact lz.trans (l.mono lz.size))
        case z339 =>
        clear hx hc
        rintro _ u3 a ⟨B1, B2, B3, B4, d1, d2, d3, d4, sD, sW, sP, rfl, Fq, l⟩ F0
        replace hs := F0.z.trans hs
        replace hd := F0.e.trans hd
        replace h5 := (F0.n 5 (by decide)).trans h5
        replace h6 := (F0.n 6 (by decide)).trans h6
        replace h7 := (F0.n 7 (by decide)).trans h7
        replace h8 := (F0.n 8 (by decide)).trans h8
        replace h11 := (F0.n 11 (by decide)).trans h11
        replace h12 := (F0.n 12 (by decide)).trans h12
        replace h65 := (F0.n 65 (by decide)).trans h65
        replace h67 := (F0.n 67 (by decide)).trans h67
        replace h14 := (F0.n 14 (by decide)).trans h14
        replace h66 := (F0.n 66 (by decide)).trans h66
        have h68 := F0.s
        clear F0
        have tq0 := fun g hg => (Fq.oM.lt g hg).2
        have tq1 := fun g hg => (Fq.oD.lt g hg).2
        have tq2 := fun g hg => (Fq.oW.lt g hg).2
        have tq3 := fun g hg => (Fq.oP.lt g hg).2
        have hz2 := l.size
        replace lz := lz.trans (l.mono lz.size)
        replace Fp := Fp.below l
        replace Q14 := Q14.below l Q14.lt
        clear l
        refine heldL_one 4 (by kernel_rfl) ?z343
        case z343 =>
          refine cont_val 4 13 (v := .pointer (some ⟨u3.heap.size, 0, none⟩)) (w' := u3.alloc (.cells #[.int .i64 0, .int .i64 0, .int .i64 0, .int .i64 0, .slice none 0 0, .slice none 0 0, .slice none 0 0, .slice none 0 0] 39)) (by kernel_rfl) (by rw [hs]; decide) ?z344 (lz.trans (((Below.refl _ _).alloc (Nat.le_refl _) _).mono lz.size)) ?z345
          case z344 => (intro o ho; obtain rfl := Option.some.inj ho; exact ⟨rfl, k_allocR rfl⟩)
          case z345 =>
          intro a F0
          replace hs := F0.z.trans hs
          replace hd := F0.e.trans hd
          replace h5 := (F0.n 5 (by decide)).trans h5
          replace h6 := (F0.n 6 (by decide)).trans h6
          replace h7 := (F0.n 7 (by decide)).trans h7
          replace h8 := (F0.n 8 (by decide)).trans h8
          replace h11 := (F0.n 11 (by decide)).trans h11
          replace h12 := (F0.n 12 (by decide)).trans h12
          replace h65 := (F0.n 65 (by decide)).trans h65
          replace h67 := (F0.n 67 (by decide)).trans h67
          replace h14 := (F0.n 14 (by decide)).trans h14
          replace h66 := (F0.n 66 (by decide)).trans h66
          replace h68 := (F0.n 68 (by decide)).trans h68
          have h13 := F0.s
          clear F0
          obtain ⟨u4, hwn⟩ : ∃ wn, wn = u3.alloc (.cells #[.int .i64 0, .int .i64 0, .int .i64 0, .int .i64 0, .slice none 0 0, .slice none 0 0, .slice none 0 0, .slice none 0 0] 39) := ⟨_, rfl⟩
          rw [← hwn]
          have qn : Blk u4 u3.heap.size 39 #[.int .i64 0, .int .i64 0, .int .i64 0, .int .i64 0, .slice none 0 0, .slice none 0 0, .slice none 0 0, .slice none 0 0] := by rw [hwn]; exact Blk.alloc _ _ _
          have ln : Below u3.heap.size u3 u4 := by rw [hwn]; exact (Below.refl _ _).alloc (Nat.le_refl _) _
          clear hwn
          have l := ln
          clear ln
          have hz3 := qn.lt
          have Q13 := qn
          clear qn
          replace lz := lz.trans (l.mono lz.size)
          replace Fp := Fp.below l
          replace Fq := Fq.below l
          replace Q14 := Q14.below l Q14.lt
          clear l
          have z0 := lz0.size
          have e6 := exc_setRow u4 (u3.heap.size) #[.int .i64 (F.tmod 4), .int .i64 (Mk.iv I), .int .i64 (Mk.cnt E C), .int .i64 (Mk.unt E U), .slice A1 (Mk.mon lm).length c1, .slice A2 (Mk.D F ld).length c2, .slice A3 ((Mk.W F lw).map (·.1)).length c3, .slice A4 (Mk.P F lm ld lw lp).length c4]
          have c13 := Q13.setRow (cs := #[.int .i64 (F.tmod 4), .int .i64 (Mk.iv I), .int .i64 (Mk.cnt E C), .int .i64 (Mk.unt E U), .slice A1 (Mk.mon lm).length c1, .slice A2 (Mk.D F ld).length c2, .slice A3 ((Mk.W F lw).map (·.1)).length c3, .slice A4 (Mk.P F lm ld lw lp).length c4])
          have c14 := Q14.exc (e6 u4.heap.size) Q14.lt (by omega)
          have Gp := Fp.exc (e6 u4.heap.size) (by omega) tp0 tp1 tp2 tp3
          have Gq := Fq.exc (e6 u4.heap.size) (by omega) tq0 tq1 tq2 tq3
          refine heldL_store 6 (w' := u4.setRow (u3.heap.size) #[.int .i64 (F.tmod 4), .int .i64 (Mk.iv I), .int .i64 (Mk.cnt E C), .int .i64 (Mk.unt E U), .slice A1 (Mk.mon lm).length c1, .slice A2 (Mk.D F ld).length c2, .slice A3 ((Mk.W F lw).map (·.1)).length c3, .slice A4 (Mk.P F lm ld lw lp).length c4]) (by kernel_rfl) (by kernel_rfl) ?z349 (lz.trans ((e6 w.heap.size).below (by omega))) ?z350
          case z349 => (intro o ho; obtain rfl := Option.some.inj ho; exact ⟨rfl, k_storeR rfl (ev_tmp h13) (ev_tmp h66) Q13 rfl rfl (by simp [Value.oneCell'])⟩)
          case z350 =>
          have e7 := exc_setRow (u4.setRow (u3.heap.size) #[.int .i64 (F.tmod 4), .int .i64 (Mk.iv I), .int .i64 (Mk.cnt E C), .int .i64 (Mk.unt E U), .slice A1 (Mk.mon lm).length c1, .slice A2 (Mk.D F ld).length c2, .slice A3 ((Mk.W F lw).map (·.1)).length c3, .slice A4 (Mk.P F lm ld lw lp).length c4]) (u0.heap.size) #[.int .i64 (F'.tmod 4), .int .i64 (Mk.iv I'), .int .i64 (Mk.cnt E' C'), .int .i64 (Mk.unt E' U'), .slice B1 (Mk.mon lm').length d1, .slice B2 (Mk.D F' ld').length d2, .slice B3 ((Mk.W F' lw').map (·.1)).length d3, .slice B4 (Mk.P F' lm' ld' lw' lp').length d4]
          have g14 := c14.setRow (cs := #[.int .i64 (F'.tmod 4), .int .i64 (Mk.iv I'), .int .i64 (Mk.cnt E' C'), .int .i64 (Mk.unt E' U'), .slice B1 (Mk.mon lm').length d1, .slice B2 (Mk.D F' ld').length d2, .slice B3 ((Mk.W F' lw').map (·.1)).length d3, .slice B4 (Mk.P F' lm' ld' lw' lp').length d4])
          have g13 := c13.exc (e7 _) c13.lt (by omega)
          have Hp := (Gp.exc (e7 _) (by omega) tp0 tp1 tp2 tp3).plain
          have Hq := (Gq.exc (e7 _) (by omega) tq0 tq1 tq2 tq3).plain
          have lzz := (lz.trans ((e6 w.heap.size).below (by omega))).trans ((e7 w.heap.size).below (by omega))
          refine heldL_store 7 (w' := (u4.setRow (u3.heap.size) #[.int .i64 (F.tmod 4), .int .i64 (Mk.iv I), .int .i64 (Mk.cnt E C), .int .i64 (Mk.unt E U), .slice A1 (Mk.mon lm).length c1, .slice A2 (Mk.D F ld).length c2, .slice A3 ((Mk.W F lw).map (·.1)).length c3, .slice A4 (Mk.P F lm ld lw lp).length c4]).setRow (u0.heap.size) #[.int .i64 (F'.tmod 4), .int .i64 (Mk.iv I'), .int .i64 (Mk.cnt E' C'), .int .i64 (Mk.unt E' U'), .slice B1 (Mk.mon lm').length d1, .slice B2 (Mk.D F' ld').length d2, .slice B3 ((Mk.W F' lw').map (·.1)).length d3, .slice B4 (Mk.P F' lm' ld' lw' lp').length d4]) (by kernel_rfl) (by kernel_rfl) ?z351 lzz ?z352
          case z351 => (intro o ho; obtain rfl := Option.some.inj ho; exact ⟨rfl, k_storeR rfl (ev_tmp h14) (ev_tmp h68) c14 rfl rfl (by simp [Value.oneCell'])⟩)
          case z352 =>
          refine wpAnyH_done (by kernel_rfl) ?_ _
          exact hR a _ _ _ A1 A2 A3 A4 B1 B2 B3 B4 c1 c2 c3 c4 d1 d2 d3 d4 hs hd h5 h6 h7 h11 h12 h13 h14 g13 g14 Hp Hq lzz
      case z337 =>
        refine cont_val 4 13 (v := .pointer (some ⟨u2.heap.size, 0, none⟩)) (w' := u2.alloc (.cells #[.int .i64 0, .int .i64 0, .int .i64 0, .int .i64 0, .slice none 0 0, .slice none 0 0, .slice none 0 0, .slice none 0 0] 39)) (by kernel_rfl) (by rw [hs]; decide) ?z353 (lz.trans (((Below.refl _ _).alloc (Nat.le_refl _) _).mono lz.size)) ?z354
        case z353 => (intro o ho; obtain rfl := Option.some.inj ho; exact ⟨rfl, k_allocR rfl⟩)
        case z354 =>
        intro a F0
        replace hs := F0.z.trans hs
        replace hd := F0.e.trans hd
        replace h5 := (F0.n 5 (by decide)).trans h5
        replace h6 := (F0.n 6 (by decide)).trans h6
        replace h7 := (F0.n 7 (by decide)).trans h7
        replace h8 := (F0.n 8 (by decide)).trans h8
        replace h11 := (F0.n 11 (by decide)).trans h11
        replace h12 := (F0.n 12 (by decide)).trans h12
        replace h65 := (F0.n 65 (by decide)).trans h65
        replace h67 := (F0.n 67 (by decide)).trans h67
        replace h14 := (F0.n 14 (by decide)).trans h14
        replace h66 := (F0.n 66 (by decide)).trans h66
        have h13 := F0.s
        clear F0
        obtain ⟨u3, hwn⟩ : ∃ wn, wn = u2.alloc (.cells #[.int .i64 0, .int .i64 0, .int .i64 0, .int .i64 0, .slice none 0 0, .slice none 0 0, .slice none 0 0, .slice none 0 0] 39) := ⟨_, rfl⟩
        rw [← hwn]
        have qn : Blk u3 u2.heap.size 39 #[.int .i64 0, .int .i64 0, .int .i64 0, .int .i64 0, .slice none 0 0, .slice none 0 0, .slice none 0 0, .slice none 0 0] := by rw [hwn]; exact Blk.alloc _ _ _
        have ln : Below u2.heap.size u2 u3 := by rw [hwn]; exact (Below.refl _ _).alloc (Nat.le_refl _) _
        clear hwn
        have l := ln
        clear ln
        have hz2 := qn.lt
        have Q13 := qn
        clear qn
        replace lz := lz.trans (l.mono lz.size)
        replace Fp := Fp.below l
        replace Q14 := Q14.below l Q14.lt
        clear l
        refine heldL_one 3 (by kernel_rfl) ?z358
        case z358 =>
          have hc := make_any' F' I' E' C' U' AM' AD' AW' AP' cM' cD' cW' cP' lm' ld' lw' lp' u3 (hY.below lz)
          have hx := fun ops Q S fuel listed d a i h1 h2 h3 => cont_call (P := Tryd.prog) (ops := ops) (Q := Q) (S := S) (fuel := fuel) (listed := listed) (a := a) (w := u3) i d h1 h2 h3 hc
          refine hx _ _ _ _ _ 68 _ 3 ?z362 ?z363 ?z359 ?z361 ?z360
          case z362 => kernel_rfl
          case z363 => (rw [hs]; decide)
          case z359 => (intro o ho; obtain rfl := Option.some.inj ho; exact ⟨rfl, c_Make rfl rfl (ev_tmp h67)⟩)
          case z361 => (rintro _ _ ⟨_, _, _, _, _, _, _, _, _, _, _, rfl, _, l⟩; exact lz.trans (l.mono lz.size))
          case z360 =>
          clear hx hc
          rintro _ u4 a ⟨B1, B2, B3, B4, d1, d2, d3, d4, sD, sW, sP, rfl, Fq, l⟩ F0
          replace hs := F0.z.trans hs
          replace hd := F0.e.trans hd
          replace h5 := (F0.n 5 (by decide)).trans h5
          replace h6 := (F0.n 6 (by decide)).trans h6
          replace h7 := (F0.n 7 (by decide)).trans h7
          replace h8 := (F0.n 8 (by decide)).trans h8
          replace h11 := (F0.n 11 (by decide)).trans h11
          replace h12 := (F0.n 12 (by decide)).trans h12
          replace h65 := (F0.n 65 (by decide)).trans h65
          replace h67 := (F0.n 67 (by decide)).trans h67
          replace h14 := (F0.n 14 (by decide)).trans h14
          replace h66 := (F0.n 66 (by decide)).trans h66
          replace h13 := (F0.n 13 (by decide)).trans h13
          have h68 := F0.s
          clear F0
          have tq0 := fun g hg => (Fq.oM.lt g hg).2
          have tq1 := fun g hg => (Fq.oD.lt g hg).2
          have tq2 := fun g hg => (Fq.oW.lt g hg).2
          have tq3 := fun g hg => (Fq.oP.lt g hg).2
          have hz3 := l.size
          replace lz := lz.trans (l.mono lz.size)
          replace Fp := Fp.below l
          replace Q13 := Q13.below l Q13.lt
          replace Q14 := Q14.below l Q14.lt
          clear l
          have z0 := lz0.size
          have e6 := exc_setRow u4 (u2.heap.size) #[.int .i64 (F.tmod 4), .int .i64 (Mk.iv I), .int .i64 (Mk.cnt E C), .int .i64 (Mk.unt E U), .slice A1 (Mk.mon lm).length c1, .slice A2 (Mk.D F ld).length c2, .slice A3 ((Mk.W F lw).map (·.1)).length c3, .slice A4 (Mk.P F lm ld lw lp).length c4]
          have c13 := Q13.setRow (cs := #[.int .i64 (F.tmod 4), .int .i64 (Mk.iv I), .int .i64 (Mk.cnt E C), .int .i64 (Mk.unt E U), .slice A1 (Mk.mon lm).length c1, .slice A2 (Mk.D F ld).length c2, .slice A3 ((Mk.W F lw).map (·.1)).length c3, .slice A4 (Mk.P F lm ld lw lp).length c4])
          have c14 := Q14.exc (e6 u4.heap.size) Q14.lt (by omega)
          have Gp := Fp.exc (e6 u4.heap.size) (by omega) tp0 tp1 tp2 tp3
          have Gq := Fq.exc (e6 u4.heap.size) (by omega) tq0 tq1 tq2 tq3
          refine heldL_store 6 (w' := u4.setRow (u2.heap.size) #[.int .i64 (F.tmod 4), .int .i64 (Mk.iv I), .int .i64 (Mk.cnt E C), .int .i64 (Mk.unt E U), .slice A1 (Mk.mon lm).length c1, .slice A2 (Mk.D F ld).length c2, .slice A3 ((Mk.W F lw).map (·.1)).length c3, .slice A4 (Mk.P F lm ld lw lp).length c4]) (by kernel_rfl) (by kernel_rfl) ?z364 (lz.trans ((e6 w.heap.size).below (by omega))) ?z365
          case z364 => (intro o ho; obtain rfl := Option.some.inj ho; exact ⟨rfl, k_storeR rfl (ev_tmp h13) (ev_tmp h66) Q13 rfl rfl (by simp [Value.oneCell'])⟩)
          case z365 =>
          have e7 := exc_setRow (u4.setRow (u2.heap.size) #[.int .i64 (F.tmod 4), .int .i64 (Mk.iv I), .int .i64 (Mk.cnt E C), .int .i64 (Mk.unt E U), .slice A1 (Mk.mon lm).length c1, .slice A2 (Mk.D F ld).length c2, .slice A3 ((Mk.W F lw).map (·.1)).length c3, .slice A4 (Mk.P F lm ld lw lp).length c4]) (u0.heap.size) #[.int .i64 (F'.tmod 4), .int .i64 (Mk.iv I'), .int .i64 (Mk.cnt E' C'), .int .i64 (Mk.unt E' U'), .slice B1 (Mk.mon lm').length d1, .slice B2 (Mk.D F' ld').length d2, .slice B3 ((Mk.W F' lw').map (·.1)).length d3, .slice B4 (Mk.P F' lm' ld' lw' lp').length d4]
          have g14 := c14.setRow (cs := #[.int .i64 (F'.tmod 4), .int .i64 (Mk.iv I'), .int .i64 (Mk.cnt E' C'), .int .i64 (Mk.unt E' U'), .slice B1 (Mk.mon lm').length d1, .slice B2 (Mk.D F' ld').length d2, .slice B3 ((Mk.W F' lw').map (·.1)).length d3, .slice B4 (Mk.P F' lm' ld' lw' lp').length d4])
          have g13 := c13.exc (e7 _) c13.lt (by omega)
          have Hp := (Gp.exc (e7 _) (by omega) tp0 tp1 tp2 tp3).plain
          have Hq := (Gq.exc (e7 _) (by omega) tq0 tq1 tq2 tq3).plain
          have lzz := (lz.trans ((e6 w.heap.size).below (by omega))).trans ((e7 w.heap.size).below (by omega))
          refine heldL_store 7 (w' := (u4.setRow (u2.heap.size) #[.int .i64 (F.tmod 4), .int .i64 (Mk.iv I), .int .i64 (Mk.cnt E C), .int .i64 (Mk.unt E U), .slice A1 (Mk.mon lm).length c1, .slice A2 (Mk.D F ld).length c2, .slice A3 ((Mk.W F lw).map (·.1)).length c3, .slice A4 (Mk.P F lm ld lw lp).length c4]).setRow (u0.heap.size) #[.int .i64 (F'.tmod 4), .int .i64 (Mk.iv I'), .int .i64 (Mk.cnt E' C'), .int .i64 (Mk.unt E' U'), .slice B1 (Mk.mon lm').length d1, .slice B2 (Mk.D F' ld').length d2, .slice B3 ((Mk.W F' lw').map (·.1)).length d3, .slice B4 (Mk.P F' lm' ld' lw' lp').length d4]) (by kernel_rfl) (by kernel_rfl) ?z366 lzz ?z367
          case z366 => (intro o ho; obtain rfl := Option.some.inj ho; exact ⟨rfl, k_storeR rfl (ev_tmp h14) (ev_tmp h68) c14 rfl rfl (by simp [Value.oneCell'])⟩)
          case z367 =>
          refine wpAnyH_done (by kernel_rfl) ?_ _
          exact hR a _ _ _ A1 A2 A3 A4 B1 B2 B3 B4 c1 c2 c3 c4 d1 d2 d3 d4 hs hd h5 h6 h7 h11 h12 h13 h14 g13 g14 Hp Hq lzz
    case z330 =>
      refine cont_val 4 13 (v := .pointer (some ⟨u1.heap.size, 0, none⟩)) (w' := u1.alloc (.cells #[.int .i64 0, .int .i64 0, .int .i64 0, .int .i64 0, .slice none 0 0, .slice none 0 0, .slice none 0 0, .slice none 0 0] 39)) (by kernel_rfl) (by rw [hs]; decide) ?z368 (lz.trans (((Below.refl _ _).alloc (Nat.le_refl _) _).mono lz.size)) ?z369
      case z368 => (intro o ho; obtain rfl := Option.some.inj ho; exact ⟨rfl, k_allocR rfl⟩)
      case z369 =>
      intro a F0
      replace hs := F0.z.trans hs
      replace hd := F0.e.trans hd
      replace h5 := (F0.n 5 (by decide)).trans h5
      replace h6 := (F0.n 6 (by decide)).trans h6
      replace h7 := (F0.n 7 (by decide)).trans h7
      replace h8 := (F0.n 8 (by decide)).trans h8
      replace h11 := (F0.n 11 (by decide)).trans h11
      replace h12 := (F0.n 12 (by decide)).trans h12
      replace h65 := (F0.n 65 (by decide)).trans h65
      replace h67 := (F0.n 67 (by decide)).trans h67
      replace h14 := (F0.n 14 (by decide)).trans h14
      have h13 := F0.s
      clear F0
      obtain ⟨u2, hwn⟩ : ∃ wn, wn = u1.alloc (.cells #[.int .i64 0, .int .i64 0, .int .i64 0, .int .i64 0, .slice none 0 0, .slice none 0 0, .slice none 0 0, .slice none 0 0] 39) := ⟨_, rfl⟩
      rw [← hwn]
      have qn : Blk u2 u1.heap.size 39 #[.int .i64 0, .int .i64 0, .int .i64 0, .int .i64 0, .slice none 0 0, .slice none 0 0, .slice none 0 0, .slice none 0 0] := by rw [hwn]; exact Blk.alloc _ _ _
      have ln : Below u1.heap.size u1 u2 := by rw [hwn]; exact (Below.refl _ _).alloc (Nat.le_refl _) _
      clear hwn
      have l := ln
      clear ln
      have hz1 := qn.lt
      have Q13 := qn
      clear qn
      replace lz := lz.trans (l.mono lz.size)
      replace Q14 := Q14.below l Q14.lt
      clear l
      refine heldL_one 1 (by kernel_rfl) ?z373
      case z373 =>
        have hc := make_any' F I E C U AM AD AW AP cM cD cW cP lm ld lw lp u2 (hX.below lz)
        have hx := fun ops Q S fuel listed d a i h1 h2 h3 => cont_call (P := Tryd.prog) (ops := ops) (Q := Q) (S := S) (fuel := fuel) (listed := listed) (a := a) (w := u2) i d h1 h2 h3 hc
        refine hx _ _ _ _ _ 66 _ 1 ?z377 ?z378 ?z374 ?z376 ?z375
        case z377 => kernel_rfl
        case z378 => (rw [hs]; decide)
        case z374 => (intro o ho; obtain rfl := Option.some.inj ho; exact ⟨rfl, c_Make rfl rfl (ev_tmp h65)⟩)
        case z376 => (rintro _ _ ⟨_, _, _, _, _, _, _, _, _, _, _, rfl, _, l⟩; exact lz.trans (l.mono lz.size))
        case z375 =>
        clear hx hc
        rintro _ u3 a ⟨A1, A2, A3, A4, c1, c2, c3, c4, tD, tW, tP, rfl, Fp, l⟩ F0
        replace hs := F0.z.trans hs
        replace hd := F0.e.trans hd
        replace h5 := (F0.n 5 (by decide)).trans h5
        replace h6 := (F0.n 6 (by decide)).trans h6
        replace h7 := (F0.n 7 (by decide)).trans h7
        replace h8 := (F0.n 8 (by decide)).trans h8
        replace h11 := (F0.n 11 (by decide)).trans h11
        replace h12 := (F0.n 12 (by decide)).trans h12
        replace h65 := (F0.n 65 (by decide)).trans h65
        replace h67 := (F0.n 67 (by decide)).trans h67
        replace h14 := (F0.n 14 (by decide)).trans h14
        replace h13 := (F0.n 13 (by decide)).trans h13
        have h66 := F0.s
        clear F0
        have tp0 := fun g hg => (Fp.oM.lt g hg).2
        have tp1 := fun g hg => (Fp.oD.lt g hg).2
        have tp2 := fun g hg => (Fp.oW.lt g hg).2
        have tp3 := fun g hg => (Fp.oP.lt g hg).2
        have hz2 := l.size
        replace lz := lz.trans (l.mono lz.size)
        replace Q13 := Q13.below l Q13.lt
        replace Q14 := Q14.below l Q14.lt
        clear l
        refine heldL_one 3 (by kernel_rfl) ?z379
        case z379 =>
          have hc := make_any' F' I' E' C' U' AM' AD' AW' AP' cM' cD' cW' cP' lm' ld' lw' lp' u3 (hY.below lz)
          have hx := fun ops Q S fuel listed d a i h1 h2 h3 => cont_call (P := Tryd.prog) (ops := ops) (Q := Q) (S := S) (fuel := fuel) (listed := listed) (a := a) (w := u3) i d h1 h2 h3 hc
          refine hx _ _ _ _ _ 68 _ 3 ?z383 ?z384 ?z380 ?z382 ?z381
          case z383 => kernel_rfl
          case z384 => (rw [hs]; decide)
          case z380 => (intro o ho; obtain rfl := Option.some.inj ho; exact ⟨rfl, c_Make rfl rfl (ev_tmp h67)⟩)
          case z382 => (rintro _ _ ⟨_, _, _, _, _, _, _, _, _, _, _, rfl, _, l⟩; exact lz.trans (l.mono lz.size))
          case z381 =>
          clear hx hc
          rintro _ u4 a ⟨B1, B2, B3, B4, d1, d2, d3, d4, sD, sW, sP, rfl, Fq, l⟩ F0
          replace hs := F0.z.trans hs
          replace hd := F0.e.trans hd
          replace h5 := (F0.n 5 (by decide)).trans h5
          replace h6 := (F0.n 6 (by decide)).trans h6
          replace h7 := (F0.n 7 (by decide)).trans h7
          replace h8 := (F0.n 8 (by decide)).trans h8
          replace h11 := (F0.n 11 (by decide)).trans h11
          replace h12 := (F0.n 12 (by decide)).trans h12
          replace h65 := (F0.n 65 (by decide)).trans h65
          replace h67 := (F0.n 67 (by decide)).trans h67
          replace h14 := (F0.n 14 (by decide)).trans h14
          replace h13 := (F0.n 13 (by decide)).trans h13
          replace h66 := (F0.n 66 (by decide)).trans h66
          have h68 := F0.s
          clear F0
          have tq0 := fun g hg => (Fq.oM.lt g hg).2
          have tq1 := fun g hg => (Fq.oD.lt g hg).2
          have tq2 := fun g hg => (Fq.oW.lt g hg).2
          have tq3 := fun g hg => (Fq.oP.lt g hg).2
          have hz3 := l.size
          replace lz := lz.trans (l.mono lz.size)
          replace Fp := Fp.below l
          replace Q13 := Q13.below l Q13.lt
          replace Q14 := Q14.below l Q14.lt
          clear l
          have z0 := lz0.size
          have e6 := exc_setRow u4 (u1.heap.size) #[.int .i64 (F.tmod 4), .int .i64 (Mk.iv I), .int .i64 (Mk.cnt E C), .int .i64 (Mk.unt E U), .slice A1 (Mk.mon lm).length c1, .slice A2 (Mk.D F ld).length c2, .slice A3 ((Mk.W F lw).map (·.1)).length c3, .slice A4 (Mk.P F lm ld lw lp).length c4]
          have c13 := Q13.setRow (cs := #[.int .i64 (F.tmod 4), .int .i64 (Mk.iv I), .int .i64 (Mk.cnt E C), .int .i64 (Mk.unt E U), .slice A1 (Mk.mon lm).length c1, .slice A2 (Mk.D F ld).length c2, .slice A3 ((Mk.W F lw).map (·.1)).length c3, .slice A4 (Mk.P F lm ld lw lp).length c4])
          have c14 := Q14.exc (e6 u4.heap.size) Q14.lt (by omega)
          have Gp := Fp.exc (e6 u4.heap.size) (by omega) tp0 tp1 tp2 tp3
          have Gq := Fq.exc (e6 u4.heap.size) (by omega) tq0 tq1 tq2 tq3
          refine heldL_store 6 (w' := u4.setRow (u1.heap.size) #[.int .i64 (F.tmod 4), .int .i64 (Mk.iv I), .int .i64 (Mk.cnt E C), .int .i64 (Mk.unt E U), .slice A1 (Mk.mon lm).length c1, .slice A2 (Mk.D F ld).length c2, .slice A3 ((Mk.W F lw).map (·.1)).length c3, .slice A4 (Mk.P F lm ld lw lp).length c4]) (by kernel_rfl) (by kernel_rfl) ?z385 (lz.trans ((e6 w.heap.size).below (by omega))) ?z386
          case z385 => (intro o ho; obtain rfl := Option.some.inj ho; exact ⟨rfl, k_storeR rfl (ev_tmp h13) (ev_tmp h66) Q13 rfl rfl (by simp [Value.oneCell'])⟩)
          case z386 =>
          have e7 := exc_setRow (u4.setRow (u1.heap.size) #[.int .i64 (F.tmod 4), .int .i64 (Mk.iv I), .int .i64 (Mk.cnt E C), .int .i64 (Mk.unt E U), .slice A1 (Mk.mon lm).length c1, .slice A2 (Mk.D F ld).length c2, .slice A3 ((Mk.W F lw).map (·.1)).length c3, .slice A4 (Mk.P F lm ld lw lp).length c4]) (u0.heap.size) #[.int .i64 (F'.tmod 4), .int .i64 (Mk.iv I'), .int .i64 (Mk.cnt E' C'), .int .i64 (Mk.unt E' U'), .slice B1 (Mk.mon lm').length d1, .slice B2 (Mk.D F' ld').length d2, .slice B3 ((Mk.W F' lw').map (·.1)).length d3, .slice B4 (Mk.P F' lm' ld' lw' lp').length d4]
          have g14 := c14.setRow (cs := #[.int .i64 (F'.tmod 4), .int .i64 (Mk.iv I'), .int .i64 (Mk.cnt E' C'), .int .i64 (Mk.unt E' U'), .slice B1 (Mk.mon lm').length d1, .slice B2 (Mk.D F' ld').length d2, .slice B3 ((Mk.W F' lw').map (·.1)).length d3, .slice B4 (Mk.P F' lm' ld' lw' lp').length d4])
          have g13 := c13.exc (e7 _) c13.lt (by omega)
          have Hp := (Gp.exc (e7 _) (by omega) tp0 tp1 tp2 tp3).plain
          have Hq := (Gq.exc (e7 _) (by omega) tq0 tq1 tq2 tq3).plain
          have lzz := (lz.trans ((e6 w.heap.size).below (by omega))).trans ((e7 w.heap.size).below (by omega))
          refine heldL_store 7 (w' := (u4.setRow (u1.heap.size) #[.int .i64 (F.tmod 4), .int .i64 (Mk.iv I), .int .i64 (Mk.cnt E C), .int .i64 (Mk.unt E U), .slice A1 (Mk.mon lm).length c1, .slice A2 (Mk.D F ld).length c2, .slice A3 ((Mk.W F lw).map (·.1)).length c3, .slice A4 (Mk.P F lm ld lw lp).length c4]).setRow (u0.heap.size) #[.int .i64 (F'.tmod 4), .int .i64 (Mk.iv I'), .int .i64 (Mk.cnt E' C'), .int .i64 (Mk.unt E' U'), .slice B1 (Mk.mon lm').length d1, .slice B2 (Mk.D F' ld').length d2, .slice B3 ((Mk.W F' lw').map (·.1)).length d3, .slice B4 (Mk.P F' lm' ld' lw' lp').length d4]) (by kernel_rfl) (by kernel_rfl) ?z387 lzz ?z388
          case z387 => (intro o ho; obtain rfl := Option.some.inj ho; exact ⟨rfl, k_storeR rfl (ev_tmp h14) (ev_tmp h68) c14 rfl rfl (by simp [Value.oneCell'])⟩)
          case z388 =>
          refine wpAnyH_done (by kernel_rfl) ?_ _
          exact hR a _ _ _ A1 A2 A3 A4 B1 B2 B3 B4 c1 c2 c3 c4 d1 d2 d3 d4 hs hd h5 h6 h7 h11 h12 h13 h14 g13 g14 Hp Hq lzz
end Go.Proofs.YtfhhlebadmkckaaDoor
