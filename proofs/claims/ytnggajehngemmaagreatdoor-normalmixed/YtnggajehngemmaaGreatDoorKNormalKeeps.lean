/-
  NormalKeeps: its walk.
-/
import Derived.Test.YtnggajehngemmaaGreatDoorNc
import Derived.Test.YtnggajehngemmaaGreatDoorFu2
import Derived.Test.YtnggajehngemmaaGreatDoorTi
import Derived.Test.YtnggajehngemmaaGreatDoorTs
import Derived.Test.YtnggajehngemmaaGreatDoorEg
namespace Go.Proofs.YtnggajehngemmaaGreatDoor
open Go Go.RowKit
theorem P_le (F : Int) (lm ld : List Int) (lw : List (Int × Int)) (lp : List Int) : (Mk.P F lm ld lw lp).length ≤ lp.length := by
  unfold Mk.P
  split
  · exact Mk.few_len _ _
  · exact Nat.zero_le _
/-- two rules' lists, as letters -/
def ksTb (M D : List Int) (K : List (Int × Int)) (P M' : List Int) (K' : List (Int × Int)) (a : Nat) : Option (TypeId × Nat × Nat × List Value) :=
  if a = 1 then some (tI, 1, M.length, cellI M) else if a = 2 then some (tI, 1, D.length, cellI D) else if a = 3 then some (tN, 2, K.length, flatN K) else if a = 4 then some (tI, 1, P.length, cellI P) else
  if a = 5 then some (tI, 1, M'.length, cellI M') else if a = 6 then some (tI, 1, D.length, cellI D) else if a = 7 then some (tN, 2, K'.length, flatN K') else if a = 8 then some (tI, 1, P.length, cellI P) else none
section
variable {w : World} {F I E C U : Int} {AM AD AW AP : Option Addr} {cM cD cW cP : Nat} {lm ld : List Int} {lw : List (Int × Int)} {lp : List Int}
abbrev ksV (F I E C U : Int) (AM AD AW AP : Option Addr) (cM cD cW cP : Nat) (lm ld : List Int) (lw : List (Int × Int)) (lp : List Int) (l : List Value) : List Value := [Value.int .u8 F, .int .u8 I, .int .u8 E, .int .u16 C, .int .u32 U, .slice AM lm.length cM, .slice AD ld.length cD, .slice AW lw.length cW, .slice AP lp.length cP] ++ l
theorem fuX_of {L : Ltr} {z : Value} (hv : ∀ i < 9, L.v i = (ksV F I E C U AM AD AW AP cM cD cW cP lm ld lw lp [])[i]?) (h : @TRel L w 3 fuX z) : z = .agg ⟨ksV F I E C U AM AD AW AP cM cD cW cP lm ld lw lp []⟩ := by
  obtain ⟨y, rfl, z0, _, rfl, ⟨E0, r0⟩, z1, _, rfl, ⟨E1, r1⟩, z2, _, rfl, ⟨E2, r2⟩, z3, _, rfl, ⟨E3, r3⟩, z4, _, rfl, ⟨E4, r4⟩, z5, _, rfl, ⟨E5, r5⟩, z6, _, rfl, ⟨E6, r6⟩, z7, _, rfl, ⟨E7, r7⟩, z8, _, rfl, ⟨E8, r8⟩, rfl⟩ := h
  rw [@is_ltr L 0 _ (hv 0 (by omega)) _ _ r0, @is_ltr L 1 _ (hv 1 (by omega)) _ _ r1, @is_ltr L 2 _ (hv 2 (by omega)) _ _ r2, @is_ltr L 3 _ (hv 3 (by omega)) _ _ r3, @is_ltr L 4 _ (hv 4 (by omega)) _ _ r4, @is_ltr L 5 _ (hv 5 (by omega)) _ _ r5, @is_ltr L 6 _ (hv 6 (by omega)) _ _ r6, @is_ltr L 7 _ (hv 7 (by omega)) _ _ r7, @is_ltr L 8 _ (hv 8 (by omega)) _ _ r8]
  rfl
theorem fu_args {L : Ltr} {what : Int} (hv : ∀ i < 9, L.v i = (ksV F I E C U AM AD AW AP cM cD cW cP lm ld lw lp [])[i]?) (h9 : L.v 9 = some (.int .u8 what)) : @RelL L (startE 64) [fuX, Lt 9] [.agg ⟨ksV F I E C U AM AD AW AP cM cD cW cP lm ld lw lp []⟩, .int .u8 what] :=
  .cons (.agg (.cons (.ltr (hv 0 (by omega)) rfl) (.cons (.ltr (hv 1 (by omega)) rfl) (.cons (.ltr (hv 2 (by omega)) rfl) (.cons (.ltr (hv 3 (by omega)) rfl) (.cons (.ltr (hv 4 (by omega)) rfl) (.cons (.ltr (hv 5 (by omega)) rfl) (.cons (.ltr (hv 6 (by omega)) rfl) (.cons (.ltr (hv 7 (by omega)) rfl) (.cons (.ltr (hv 8 (by omega)) rfl) .nil)))))))))) (.cons (.ltr h9 rfl) .nil)
theorem light_ok {L : Ltr} {b : Bool} (hv : ∀ i < 9, L.v i = (ksV F I E C U AM AD AW AP cM cD cW cP lm ld lw lp [])[i]?) (hX : XIn0 w F I E C U AM AD AW AP lm ld lw lp) (hl : light lm ld lw lp = b) : @PrimOk L Tryz.prog (flT ksL [fuX] (.bool b)) 64 (kep w) 64 := by
  refine @flT_ok L _ _ _ _ _ _ _ rfl fun w1 args' k ha => ?_
  obtain ⟨z, _, rfl, hz, rfl⟩ := ha
  rw [fuX_of hv hz]
  refine (light_any _ _ _ _ _ AM AD AW AP cM cD cW cP lm ld lw lp w1 hX.lm1 hX.ld1 hX.lw1 hX.lp1).mono ?_
  rintro e w2 ⟨v, rfl, rfl, hb⟩
  exact ⟨by rw [hl], hb⟩
theorem awake_ok {L : Ltr} (hT : Tab7 w) : @PrimOk L Tryz.prog (flT ksW [] (.bool true)) 64 (kep w) 64 := by
  refine @flT_ok L _ _ _ _ _ _ _ rfl fun w1 args' k ha => ?_
  obtain rfl : args' = [] := ha
  exact awk4 w1 (hT.t.keep k)
theorem full_ok {L : Ltr} {what : Int} (hv : ∀ i < 9, L.v i = (ksV F I E C U AM AD AW AP cM cD cW cP lm ld lw lp [])[i]?) (h9 : L.v 9 = some (.int .u8 what)) (h10 : L.v 10 = some (.int .i64 (F.tmod 4))) (h11 : L.v 11 = some (.int .i64 (Mk.iv I))) (h12 : L.v 12 = some (.int .i64 (Mk.cnt E C))) (h13 : L.v 13 = some (.int .i64 (Mk.unt E U)))
    (hX : XIn0 w F I E C U AM AD AW AP lm ld lw lp) (hl : light lm ld lw lp = true)
    (i1 : @IsL L 1 tI 1 (Mk.mon (lmN (fb what 1) lm)).length (cellI (Mk.mon (lmN (fb what 1) lm)))) (i2 : @IsL L 2 tI 1 (Mk.D F ld).length (cellI (Mk.D F ld))) (i3 : @IsL L 3 tN 2 ((Mk.W F (lwN (fb what 2) lw)).map (·.1)).length (flatN ((Mk.W F (lwN (fb what 2) lw)).map (·.1)))) (i4 : @IsL L 4 tI 1 (Mk.P F (lmN (fb what 1) lm) ld (lwN (fb what 2) lw) (lpN (fb what 4) lp)).length (cellI (Mk.P F (lmN (fb what 1) lm) ld (lwN (fb what 2) lw) (lpN (fb what 4) lp)))) : @PrimOk L Tryz.prog (tokP fuF [fuX, Lt 9] (ksR 1 2 3 4)) 64 (kep w) 64 := by
  refine @tokP_ok L _ _ _ _ _ _ _ fun w1 args' k ha => ?_
  obtain ⟨z, _, rfl, hz, _, _, rfl, ⟨E9, r9⟩, rfl⟩ := ha
  rw [fuX_of hv hz, @is_ltr L 9 _ h9 _ _ r9]
  refine (full_any (x_kept hX k) hl what).mono ?_
  rintro e w2 ⟨r, rfl, hb, hr⟩
  obtain ⟨bs, q1, q2, q3⟩ := rule_new (L := L) (i := 10) (j := 11) (k := 12) (l := 13) (a := 1) (b := 2) (c := 3) (d := 4) h10 h11 h12 h13 i1 i2 i3 i4 hr
  exact ⟨_, bs, rfl, hb, q1, q2, q3⟩
/-- a rule's fields, its lists as letters, as a call is given them -/
theorem rule_at {L : Ltr} {w1 : World} {a b c d : Nat} {f iv cn u : Int} {M D : List Int} {K : List (Int × Int)} {P : List Int} {z : Value} (h10 : L.v 10 = some (.int .i64 f)) (h11 : L.v 11 = some (.int .i64 iv)) (h12 : L.v 12 = some (.int .i64 cn)) (h13 : L.v 13 = some (.int .i64 u))
    (i1 : @IsL L a tI 1 M.length (cellI M)) (i2 : @IsL L b tI 1 D.length (cellI D)) (i3 : @IsL L c tN 2 K.length (flatN K)) (i4 : @IsL L d tI 1 P.length (cellI P)) (lM : M.length ≤ 1000000) (lD : D.length ≤ 1000000) (lK : K.length ≤ 1000000) (lP : P.length ≤ 1000000) (h : @TRel L w1 3 (ksR a b c d) z) :
    ∃ sM sD sW sP, z = .agg #[.int .i64 f, .int .i64 iv, .int .i64 cn, .int .i64 u, sM, sD, sW, sP] ∧ RuleI w1 sM sD sW sP M D K P := by
  obtain ⟨y, rfl, z0, _, rfl, ⟨E0, r0⟩, z1, _, rfl, ⟨E1, r1⟩, z2, _, rfl, ⟨E2, r2⟩, z3, _, rfl, ⟨E3, r3⟩, z4, _, rfl, h4, z5, _, rfl, h5, z6, _, rfl, h6, z7, _, rfl, h7, rfl⟩ := h
  rw [@is_ltr L 10 _ h10 _ _ r0, @is_ltr L 11 _ h11 _ _ r1, @is_ltr L 12 _ h12 _ _ r2, @is_ltr L 13 _ h13 _ _ r3]
  exact ⟨z4, z5, z6, z7, rfl, @TokAt.own' L _ _ _ _ _ _ _ h4 i1, @TokAt.own' L _ _ _ _ _ _ _ h5 i2, @TokAt.own' L _ _ _ _ _ _ _ h6 i3, @TokAt.own' L _ _ _ _ _ _ _ h7 i4, lM, lD, lK, lP⟩
theorem of_ok {L : Ltr} {a b c d a' b' c' d' : Nat} {f iv cn u : Int} {M D : List Int} {K : List (Int × Int)} {P : List Int} (h10 : L.v 10 = some (.int .i64 f)) (h11 : L.v 11 = some (.int .i64 iv)) (h12 : L.v 12 = some (.int .i64 cn)) (h13 : L.v 13 = some (.int .i64 u))
    (i1 : @IsL L a tI 1 M.length (cellI M)) (i2 : @IsL L b tI 1 D.length (cellI D)) (i3 : @IsL L c tN 2 K.length (flatN K)) (i4 : @IsL L d tI 1 P.length (cellI P)) (lM : M.length ≤ 1000000) (lD : D.length ≤ 1000000) (lK : K.length ≤ 1000000) (lP : P.length ≤ 1000000)
    (i5 : @IsL L a' tI 1 (ofM f (tidI M) (tidI D) (tidN K) (tidI P)).length (cellI (ofM f (tidI M) (tidI D) (tidN K) (tidI P)))) (i6 : @IsL L b' tI 1 (tidI D).length (cellI (tidI D))) (i7 : @IsL L c' tN 2 (ofW f (tidI M) (tidI D) (tidN K) (tidI P)).length (flatN (ofW f (tidI M) (tidI D) (tidN K) (tidI P)))) (i8 : @IsL L d' tI 1 (tidI P).length (cellI (tidI P))) : @PrimOk L Tryz.prog (tokP ofF [ksR a b c d] (ksR a' b' c' d')) 64 (kep w) 64 := by
  refine @tokP_ok L _ _ _ _ _ _ _ fun w1 args' k ha => ?_
  obtain ⟨z, _, rfl, hz, rfl⟩ := ha
  obtain ⟨sM, sD, sW, sP, rfl, hR⟩ := rule_at h10 h11 h12 h13 i1 i2 i3 i4 lM lD lK lP hz
  refine (of_any tidyI tidyN hR).mono ?_
  rintro e w2 ⟨r, rfl, hb, hr⟩
  obtain ⟨bs, q1, q2, q3⟩ := rule_new (L := L) (i := 10) (j := 11) (k := 12) (l := 13) (a := a') (b := b') (c := c') (d := d') h10 h11 h12 h13 i5 i6 i7 i8 hr
  exact ⟨_, bs, rfl, hb, q1, q2, q3⟩
theorem eq_ok {L : Ltr} {a b : Nat} {M : List Int} (ia : @IsL L a tI 1 M.length (cellI M)) (ib : @IsL L b tI 1 M.length (cellI M)) (hl : M.length ≤ 1000000) : @PrimOk L Tryz.prog (flT ksE [TOK 0 a, TOK 0 b] (.bool true)) 64 (kep w) 64 := by
  refine @flT_ok L _ _ _ _ _ _ _ rfl fun w1 args' k ha => ?_
  obtain ⟨z, _, rfl, hz, z', _, rfl, hz', rfl⟩ := ha
  have oa : OwnI w1 0 z M := @TokAt.own' L _ _ _ _ _ _ _ hz ia
  have ob : OwnI w1 0 z' M := @TokAt.own' L _ _ _ _ _ _ _ hz' ib
  obtain ⟨A, c, rfl⟩ := own_slice oa
  obtain ⟨B, d, rfl⟩ := own_slice ob
  refine (eqI_any A B c d M M w1 oa.plain ob.plain (by unfold maxLen; omega) (by unfold maxLen; omega)).mono ?_
  rintro e w2 ⟨v, rfl, rfl, hb⟩
  exact ⟨by rw [beq_self_eq_true], hb⟩
theorem keep_ok {L : Ltr} {a b : Nat} {A B : List Int} (ia : @IsL L a tI 1 A.length (cellI A)) (ib : @IsL L b tI 1 B.length (cellI B)) (la : A.length ≤ 1000000) (lb : B.length ≤ 1000000) (hs : ∀ x ∈ A, x ∈ B) : @PrimOk L Tryz.prog (flT ksN [TOK 0 a, TOK 0 b] (.bool false)) 64 (kep w) 64 := by
  refine @flT_ok L _ _ _ _ _ _ _ rfl fun w1 args' k ha => ?_
  obtain ⟨z, _, rfl, hz, z', _, rfl, hz', rfl⟩ := ha
  exact keep_any (@TokAt.own' L _ _ _ _ _ _ _ hz ia) (@TokAt.own' L _ _ _ _ _ _ _ hz' ib) la lb hs
end
theorem normalKeeps_walk (F I E C U : Int) (AM AD AW AP : Option Addr) (cM cD cW cP : Nat) (lm ld : List Int) (lw : List (Int × Int)) (lp : List Int) (n : Nat) (_hn : n ≤ 255) (w : World) (hT : Tab7 w) (hX : XIn0 w F I E C U AM AD AW AP lm ld lw lp) :
    Calls Tryz.prog 6 #[.agg #[.int .u8 F, .int .u8 I, .int .u8 E, .int .u16 C, .int .u32 U, .slice AM lm.length cM, .slice AD ld.length cD, .slice AW lw.length cW, .slice AP lp.length cP], .int .u8 n] w fun e w' => e = .returned (.bool true) ∧ Below w.heap.size w w' := by
  cases hl : light lm ld lw lp with
  | false =>
    let L : Ltr := ltrL (ksV F I E C U AM AD AW AP cM cD cW cP lm ld lw lp [.int .u8 n])
    have hv : ∀ i < 9, L.v i = (ksV F I E C U AM AD AW AP cM cD cW cP lm ld lw lp [])[i]? := fun i hi => List.getElem?_append_left (by exact hi)
    exact symB L 60 an an an (@anyP_ok L _ _ _ _ _ (ac (awake_ok hT) (ac (light_ok hv hX hl) an))) (fu_args hv rfl) ks_heavy
  | true =>
    obtain ⟨l1, l2, l3, l4⟩ : lm.length ≤ 20 ∧ ld.length ≤ 20 ∧ lw.length ≤ 20 ∧ lp.length ≤ 20 := by simpa [light] using hl
    have tD : tidI (Mk.D F ld) = Mk.D F ld := tidI_id (D_up F ld)
    have tP : tidI (Mk.P F (lmN (fb n 1) lm) ld (lwN (fb n 2) lw) (lpN (fb n 4) lp)) = Mk.P F (lmN (fb n 1) lm) ld (lwN (fb n 2) lw) (lpN (fb n 4) lp) := tidI_id (P_up F _ ld _ _)
    let f := F.tmod 4
    let M := Mk.mon (lmN (fb n 1) lm)
    let D := Mk.D F ld
    let K := (Mk.W F (lwN (fb n 2) lw)).map (·.1)
    let P := Mk.P F (lmN (fb n 1) lm) ld (lwN (fb n 2) lw) (lpN (fb n 4) lp)
    have kM : M.length ≤ 20 := Nat.le_trans (Mk.mon_len (lmN (fb n 1) lm)) (lmN_len l1)
    have kD : D.length ≤ 20 := Nat.le_trans (Mk.D_len F ld) l2
    have kW : K.length ≤ 27 := Nat.le_trans (Mk.W_len F (lwN (fb n 2) lw)) (lwN_len l3)
    have kP : P.length ≤ 20 := Nat.le_trans (P_le F (lmN (fb n 1) lm) ld (lwN (fb n 2) lw) (lpN (fb n 4) lp)) (lpN_len l4)
    let M' := ofM f (tidI M) (tidI D) (tidN K) (tidI P)
    let K' := ofW f (tidI M) (tidI D) (tidN K) (tidI P)
    have hK' : K'.length ≤ K.length := Nat.le_trans (ofW_len _ _ _ _ _) (tidN_len _)
    have hM' : M'.length ≤ M.length := Nat.le_trans (ofM_len _ _ _ _ _) (tidI_len _)
    let fv : List Value := ksV F I E C U AM AD AW AP cM cD cW cP lm ld lw lp [.int .u8 n, .int .i64 f, .int .i64 (Mk.iv I), .int .i64 (Mk.cnt E C), .int .i64 (Mk.unt E U), .int .i64 K'.length, .int .i64 K.length]
    let L : Ltr := tabL (fun i => fv[i]?) (ksTb M D K P M' K')
    have hv : ∀ i < 9, L.v i = (ksV F I E C U AM AD AW AP cM cD cW cP lm ld lw lp [])[i]? := fun i hi => List.getElem?_append_left (by exact hi)
    have i1 : @IsL L 1 tI 1 M.length (cellI M) := tab_is rfl (cellI_len _) (by omega)
    have i2 : @IsL L 2 tI 1 D.length (cellI D) := tab_is rfl (cellI_len _) (by omega)
    have i3 : @IsL L 3 tN 2 K.length (flatN K) := tab_is rfl (flatN_len _) (by omega)
    have i4 : @IsL L 4 tI 1 P.length (cellI P) := tab_is rfl (cellI_len _) (by omega)
    have i5 : @IsL L 5 tI 1 M'.length (cellI M') := tab_is rfl (cellI_len _) (by omega)
    have i6 : @IsL L 6 tI 1 D.length (cellI D) := tab_is rfl (cellI_len _) (by omega)
    have i7 : @IsL L 7 tN 2 K'.length (flatN K') := tab_is rfl (flatN_len _) (by omega)
    have i8 : @IsL L 8 tI 1 P.length (cellI P) := tab_is rfl (cellI_len _) (by omega)
    have hO : ∀ e ∈ ksO, @OEOkX L Tryz.prog (kep w) e :=
      ac (@ll L .eql 10 10 _ _ _ (.bool true) rfl rfl (xi_eq (decide_eq_true rfl)) (@to_flat L _ rfl)).x (ac (@ll L .eql 11 11 _ _ _ (.bool true) rfl rfl (xi_eq (decide_eq_true rfl)) (@to_flat L _ rfl)).x (ac (@ll L .eql 12 12 _ _ _ (.bool true) rfl rfl (xi_eq (decide_eq_true rfl)) (@to_flat L _ rfl)).x (ac (@ll L .eql 13 13 _ _ _ (.bool true) rfl rfl (xi_eq (decide_eq_true rfl)) (@to_flat L _ rfl)).x
        (ac (@lenT_ok L 34 _ 7 K'.length (Lt 14) Tryz.underlying34 (fun k n c hs => ((i7.s k n c).1 hs).1) (@to_ltr L 14 _ rfl rfl)).x (ac (@lenT_ok L 34 _ 3 K.length (Lt 15) Tryz.underlying34 (fun k n c hs => ((i3.s k n c).1 hs).1) (@to_ltr L 15 _ rfl rfl)).x (ac (@ll L .leq 14 15 _ _ _ (.bool true) rfl rfl (xi_le (decide_eq_true (by omega))) (@to_flat L _ rfl)).x an))))))
    have hof := of_ok (w := w) (L := L) (a := 1) (b := 2) (c := 3) (d := 4) (a' := 5) (b' := 6) (c' := 7) (d' := 8) (f := f) (M := M) (D := D) (K := K) (P := P) rfl rfl rfl rfl i1 i2 i3 i4 (by omega) (by omega) (by omega) (by omega) i5 (by rw [tD]; exact i6) i7 (by rw [tP]; exact i8)
    exact symB L 60 hO an an (@anyP_ok L _ _ _ _ _ (ac (awake_ok hT) (ac (light_ok hv hX hl) (ac (full_ok hv rfl rfl rfl rfl rfl hX hl i1 i2 i3 i4) (ac hof (ac (eq_ok i6 i2 (by omega)) (ac (eq_ok i8 i4 (by omega)) (ac (keep_ok i5 i1 (by omega) (by omega) (fun x hx => tidI_mem (ofM_mem hx))) an)))))))) (fu_args hv rfl) ks_run
end Go.Proofs.YtnggajehngemmaaGreatDoor
