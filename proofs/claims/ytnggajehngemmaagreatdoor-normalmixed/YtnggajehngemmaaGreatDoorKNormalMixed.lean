/-
  NormalMixed: its walk.
-/
import Derived.Test.YtnggajehngemmaaGreatDoorNm
import Derived.Test.YtnggajehngemmaaGreatDoorKNormalKeeps
import Derived.Test.YtnggajehngemmaaGreatDoorMd2
namespace Go.Proofs.YtnggajehngemmaaGreatDoor
open Go Go.RowKit
def nmTb (M D : List Int) (K : List (Int × Int)) (P : List Int) (M1 D1 : List Int) (K1 : List (Int × Int)) (P1 : List Int) (M2 D2 : List Int) (K2 : List (Int × Int)) (P2 : List Int) (M' : List Int) (K' : List (Int × Int)) (a : Nat) : Option (TypeId × Nat × Nat × List Value) :=
  if a = 1 then some (tI, 1, M.length, cellI M) else if a = 2 then some (tI, 1, D.length, cellI D) else if a = 3 then some (tN, 2, K.length, flatN K) else if a = 4 then some (tI, 1, P.length, cellI P) else
  if a = 5 then some (tI, 1, M1.length, cellI M1) else if a = 6 then some (tI, 1, D1.length, cellI D1) else if a = 7 then some (tN, 2, K1.length, flatN K1) else if a = 8 then some (tI, 1, P1.length, cellI P1) else
  if a = 9 then some (tI, 1, M2.length, cellI M2) else if a = 10 then some (tI, 1, D2.length, cellI D2) else if a = 11 then some (tN, 2, K2.length, flatN K2) else if a = 12 then some (tI, 1, P2.length, cellI P2) else
  if a = 13 then some (tI, 1, M'.length, cellI M') else if a = 14 then some (tN, 2, K'.length, flatN K') else none
section
variable {w : World} {L : Ltr} {a b c d a' b' c' d' : Nat} {f iv cn u : Int} {M D : List Int} {K : List (Int × Int)} {P : List Int}
theorem md_ok {j : Nat} {t : Int} (h10 : L.v 10 = some (.int .i64 f)) (h11 : L.v 11 = some (.int .i64 iv)) (h12 : L.v 12 = some (.int .i64 cn)) (h13 : L.v 13 = some (.int .i64 u)) (hj : L.v j = some (.int .u8 t))
    (i1 : @IsL L a tI 1 M.length (cellI M)) (i2 : @IsL L b tI 1 D.length (cellI D)) (i3 : @IsL L c tN 2 K.length (flatN K)) (i4 : @IsL L d tI 1 P.length (cellI P)) (lM : M.length ≤ 1000) (lD : D.length ≤ 1000) (lK : K.length ≤ 1000) (lP : P.length ≤ 1000)
    (i5 : @IsL L a' tI 1 (mxl t M M.length).length (cellI (mxl t M M.length))) (i6 : @IsL L b' tI 1 (mxl t D D.length).length (cellI (mxl t D D.length))) (i7 : @IsL L c' tN 2 (mwl t K).length (flatN (mwl t K))) (i8 : @IsL L d' tI 1 (mxl t P P.length).length (cellI (mxl t P P.length))) : @PrimOk L Tryz.prog (tokP mdF [ksR a b c d, Lt j] (ksR a' b' c' d')) 64 (kep w) 64 := by
  refine @tokP_ok L _ _ _ _ _ _ _ fun w1 args' k ha => ?_
  obtain ⟨z, _, rfl, hz, _, _, rfl, ⟨E9, r9⟩, rfl⟩ := ha
  obtain ⟨sM, sD, sW, sP, rfl, hR⟩ := rule_at h10 h11 h12 h13 i1 i2 i3 i4 (by omega) (by omega) (by omega) (by omega) hz
  rw [@is_ltr L j _ hj _ _ r9]
  refine (mixed_any hR lM lD lK lP).mono ?_
  rintro e w2 ⟨r, rfl, hb, hr⟩
  obtain ⟨bs, q1, q2, q3⟩ := rule_new (L := L) (i := 10) (j := 11) (k := 12) (l := 13) (a := a') (b := b') (c := c') (d := d') h10 h11 h12 h13 i5 i6 i7 i8 hr
  exact ⟨_, bs, rfl, hb, q1, q2, q3⟩
theorem td_ok (h10 : L.v 10 = some (.int .i64 f)) (h11 : L.v 11 = some (.int .i64 iv)) (h12 : L.v 12 = some (.int .i64 cn)) (h13 : L.v 13 = some (.int .i64 u))
    (i1 : @IsL L a tI 1 M.length (cellI M)) (i2 : @IsL L b tI 1 D.length (cellI D)) (i3 : @IsL L c tN 2 K.length (flatN K)) (i4 : @IsL L d tI 1 P.length (cellI P)) (lM : M.length ≤ 1000000) (lD : D.length ≤ 1000000) (lK : K.length ≤ 1000000) (lP : P.length ≤ 1000000)
    (i5 : @IsL L a' tI 1 (tidI M).length (cellI (tidI M))) (i6 : @IsL L b' tI 1 (tidI D).length (cellI (tidI D))) (i7 : @IsL L c' tN 2 (tidN K).length (flatN (tidN K))) (i8 : @IsL L d' tI 1 (tidI P).length (cellI (tidI P))) : @PrimOk L Tryz.prog (tokP tdF [ksR a b c d] (ksR a' b' c' d')) 64 (kep w) 64 := by
  refine @tokP_ok L _ _ _ _ _ _ _ fun w1 args' k ha => ?_
  obtain ⟨z, _, rfl, hz, rfl⟩ := ha
  obtain ⟨sM, sD, sW, sP, rfl, hR⟩ := rule_at h10 h11 h12 h13 i1 i2 i3 i4 lM lD lK lP hz
  refine (tidy_any tidyI tidyN hR).mono ?_
  rintro e w2 ⟨r, rfl, hb, hr⟩
  obtain ⟨bs, q1, q2, q3⟩ := rule_new (L := L) (i := 10) (j := 11) (k := 12) (l := 13) (a := a') (b := b') (c := c') (d := d') h10 h11 h12 h13 i5 i6 i7 i8 hr
  exact ⟨_, bs, rfl, hb, q1, q2, q3⟩
theorem sm_ok (h10 : L.v 10 = some (.int .i64 f)) (h11 : L.v 11 = some (.int .i64 iv)) (h12 : L.v 12 = some (.int .i64 cn)) (h13 : L.v 13 = some (.int .i64 u))
    (i1 : @IsL L a tI 1 M.length (cellI M)) (i2 : @IsL L b tI 1 D.length (cellI D)) (i3 : @IsL L c tN 2 K.length (flatN K)) (i4 : @IsL L d tI 1 P.length (cellI P)) (lM : M.length ≤ 1000000) (lD : D.length ≤ 1000000) (lK : K.length ≤ 1000000) (lP : P.length ≤ 1000000) : @PrimOk L Tryz.prog (flT smF [ksR a b c d, ksR a b c d] (.bool true)) 64 (kep w) 64 := by
  refine @flT_ok L _ _ _ _ _ _ _ rfl fun w1 args' k ha => ?_
  obtain ⟨z, _, rfl, hz, z', _, rfl, hz', rfl⟩ := ha
  obtain ⟨sM, sD, sW, sP, rfl, hR⟩ := rule_at h10 h11 h12 h13 i1 i2 i3 i4 lM lD lK lP hz
  obtain ⟨tM, tD, tW, tP, rfl, hS⟩ := rule_at h10 h11 h12 h13 i1 i2 i3 i4 lM lD lK lP hz'
  obtain ⟨A1, c1, rfl⟩ := own_slice hR.m
  obtain ⟨A2, c2, rfl⟩ := own_slice hR.d
  obtain ⟨A3, c3, rfl⟩ := own_slice hR.k
  obtain ⟨A4, c4, rfl⟩ := own_slice hR.p
  obtain ⟨B1, d1, rfl⟩ := own_slice hS.m
  obtain ⟨B2, d2, rfl⟩ := own_slice hS.d
  obtain ⟨B3, d3, rfl⟩ := own_slice hS.k
  obtain ⟨B4, d4, rfl⟩ := own_slice hS.p
  have mx : ∀ {n : Nat}, n ≤ 1000000 → n ≤ maxLen := fun h => by unfold maxLen; omega
  refine (same_any f iv cn u f iv cn u A1 A2 A3 A4 B1 B2 B3 B4 c1 c2 c3 c4 d1 d2 d3 d4 M D M D K K P P w1 ⟨hR.m.plain, hR.d.plain, hR.k.plain, hR.p.plain, mx lM, mx lD, mx lK, mx lP⟩ ⟨hS.m.plain, hS.d.plain, hS.k.plain, hS.p.plain, mx lM, mx lD, mx lK, mx lP⟩).mono ?_
  rintro e w2 ⟨v, rfl, rfl, hb⟩
  exact ⟨by rw [sameB_self], hb⟩
end
section
variable {F I E C U : Int} {AM AD AW AP : Option Addr} {cM cD cW cP : Nat} {lm ld : List Int} {lw : List (Int × Int)} {lp : List Int}
theorem nm_args {L : Ltr} {what s t : Int} (hv : ∀ i < 9, L.v i = (ksV F I E C U AM AD AW AP cM cD cW cP lm ld lw lp [])[i]?) (h9 : L.v 9 = some (.int .u8 what)) (h14 : L.v 14 = some (.int .u8 s)) (h15 : L.v 15 = some (.int .u8 t)) : @RelL L (startE 64) [fuX, Lt 9, Lt 14, Lt 15] [.agg ⟨ksV F I E C U AM AD AW AP cM cD cW cP lm ld lw lp []⟩, .int .u8 what, .int .u8 s, .int .u8 t] := by
  have h := fu_args hv h9
  cases h with
  | cons r1 t1 => cases t1 with
    | cons r2 t2 => exact .cons r1 (.cons r2 (.cons (.ltr h14 rfl) (.cons (.ltr h15 rfl) .nil)))
end
theorem K_up (F : Int) (lw : List (Int × Int)) (h : ∀ x ∈ lw, 0 ≤ x.2) : ((Mk.W F lw).map (·.1)).Pairwise ltN := (Mk.weeks_W lw h).u.imp fun h => Rul.cmpN_neg.1 h
theorem normalMixed_walk (F I E C U : Int) (AM AD AW AP : Option Addr) (cM cD cW cP : Nat) (lm ld : List Int) (lw : List (Int × Int)) (lp : List Int) (n s t : Nat) (_hn : n ≤ 255) (_hs : s ≤ 255) (_ht : t ≤ 255) (w : World) (hT : Tab7 w) (hX : XIn0 w F I E C U AM AD AW AP lm ld lw lp) :
    Calls Tryz.prog 5 #[.agg #[.int .u8 F, .int .u8 I, .int .u8 E, .int .u16 C, .int .u32 U, .slice AM lm.length cM, .slice AD ld.length cD, .slice AW lw.length cW, .slice AP lp.length cP], .int .u8 n, .int .u8 s, .int .u8 t] w fun e w' => e = .returned (.bool true) ∧ Below w.heap.size w w' := by
  let fv : List Value := ksV F I E C U AM AD AW AP cM cD cW cP lm ld lw lp [.int .u8 n, .int .i64 (F.tmod 4), .int .i64 (Mk.iv I), .int .i64 (Mk.cnt E C), .int .i64 (Mk.unt E U), .int .u8 s, .int .u8 t]
  cases hl : light lm ld lw lp with
  | false =>
    let L : Ltr := ltrL fv
    have hv : ∀ i < 9, L.v i = (ksV F I E C U AM AD AW AP cM cD cW cP lm ld lw lp [])[i]? := fun i hi => List.getElem?_append_left (by exact hi)
    exact symB L 60 an an an (@anyP_ok L _ _ _ _ _ (ac (awake_ok hT) (ac (light_ok hv hX hl) an))) (nm_args hv rfl rfl rfl) nm_heavy
  | true =>
    obtain ⟨l1, l2, l3, l4⟩ : lm.length ≤ 20 ∧ ld.length ≤ 20 ∧ lw.length ≤ 20 ∧ lp.length ≤ 20 := by simpa [light] using hl
    let f := F.tmod 4
    let M := Mk.mon (lmN (fb n 1) lm)
    let D := Mk.D F ld
    let K := (Mk.W F (lwN (fb n 2) lw)).map (·.1)
    let P := Mk.P F (lmN (fb n 1) lm) ld (lwN (fb n 2) lw) (lpN (fb n 4) lp)
    have uM : M.Pairwise fun x y => x < y := tidI_up (Mk.monOut (lmN (fb n 1) lm))
    have uD : D.Pairwise fun x y => x < y := D_up F ld
    have uK : K.Pairwise ltN := K_up F _ fun x hx => (lwN_in hX.bk x hx).2.1
    have uP : P.Pairwise fun x y => x < y := P_up F _ ld _ _
    have kM : M.length ≤ 20 := Nat.le_trans (Mk.mon_len (lmN (fb n 1) lm)) (lmN_len l1)
    have kD : D.length ≤ 20 := Nat.le_trans (Mk.D_len F ld) l2
    have kW : K.length ≤ 27 := Nat.le_trans (Mk.W_len F (lwN (fb n 2) lw)) (lwN_len l3)
    have kP : P.length ≤ 20 := Nat.le_trans (P_le F (lmN (fb n 1) lm) ld (lwN (fb n 2) lw) (lpN (fb n 4) lp)) (lpN_len l4)
    have tm : ∀ (q : Int) {A : List Int}, A.Pairwise (fun x y => x < y) → tidI (mxl q A A.length) = A := fun q A h => tidI_set h fun x => mxl_mem (Nat.le_refl _) x
    have tk : ∀ q : Int, tidN (mwl q K) = K := fun q => tidN_set uK fun x => mwl_mem x
    have lm' : ∀ (q : Int) (A : List Int), (mxl q A A.length).length ≤ A.length + A.length := fun q A => (mxl_len q A A.length).1
    let M' := ofM f M D K P
    let K' := ofW f M D K P
    have hK' : K'.length ≤ K.length := ofW_len _ _ _ _ _
    have hM' : M'.length ≤ M.length := ofM_len _ _ _ _ _
    let L : Ltr := tabL (fun i => fv[i]?) (nmTb M D K P (mxl s M M.length) (mxl s D D.length) (mwl s K) (mxl s P P.length) (mxl t M M.length) (mxl t D D.length) (mwl t K) (mxl t P P.length) M' K')
    have hv : ∀ i < 9, L.v i = (ksV F I E C U AM AD AW AP cM cD cW cP lm ld lw lp [])[i]? := fun i hi => List.getElem?_append_left (by exact hi)
    have i1 : @IsL L 1 tI 1 M.length (cellI M) := tab_is rfl (cellI_len _) (by omega)
    have i2 : @IsL L 2 tI 1 D.length (cellI D) := tab_is rfl (cellI_len _) (by omega)
    have i3 : @IsL L 3 tN 2 K.length (flatN K) := tab_is rfl (flatN_len _) (by omega)
    have i4 : @IsL L 4 tI 1 P.length (cellI P) := tab_is rfl (cellI_len _) (by omega)
    have i5 : @IsL L 5 tI 1 (mxl s M M.length).length (cellI (mxl s M M.length)) := tab_is rfl (cellI_len _) (by omega)
    have i6 : @IsL L 6 tI 1 (mxl s D D.length).length (cellI (mxl s D D.length)) := tab_is rfl (cellI_len _) (by omega)
    have i7 : @IsL L 7 tN 2 (mwl s K).length (flatN (mwl s K)) := tab_is rfl (flatN_len _) (by omega)
    have i8 : @IsL L 8 tI 1 (mxl s P P.length).length (cellI (mxl s P P.length)) := tab_is rfl (cellI_len _) (by omega)
    have i9 : @IsL L 9 tI 1 (mxl t M M.length).length (cellI (mxl t M M.length)) := tab_is rfl (cellI_len _) (by omega)
    have i10 : @IsL L 10 tI 1 (mxl t D D.length).length (cellI (mxl t D D.length)) := tab_is rfl (cellI_len _) (by omega)
    have i11 : @IsL L 11 tN 2 (mwl t K).length (flatN (mwl t K)) := tab_is rfl (flatN_len _) (by omega)
    have i12 : @IsL L 12 tI 1 (mxl t P P.length).length (cellI (mxl t P P.length)) := tab_is rfl (cellI_len _) (by omega)
    have i13 : @IsL L 13 tI 1 M'.length (cellI M') := tab_is rfl (cellI_len _) (by omega)
    have i14 : @IsL L 14 tN 2 K'.length (flatN K') := tab_is rfl (flatN_len _) (by omega)
    have wl : ∀ q : Int, (mwl q K).length ≤ K.length + K.length := fun q => mwl_len q K
    have a1 := lm' s M
    have a2 := lm' s D
    have a3 := wl s
    have a4 := lm' s P
    have b1 := lm' t M
    have b2 := lm' t D
    have b3 := wl t
    have b4 := lm' t P
    have of1 := of_ok (w := w) (L := L) (a := 5) (b := 6) (c := 7) (d := 8) (a' := 13) (b' := 2) (c' := 14) (d' := 4) (f := f) rfl rfl rfl rfl i5 i6 i7 i8 (by omega) (by omega) (by omega) (by omega) (by rw [tm s uM, tm s uD, tk, tm s uP]; exact i13) (by rw [tm s uD]; exact i2) (by rw [tm s uM, tm s uD, tk, tm s uP]; exact i14) (by rw [tm s uP]; exact i4)
    have of2 := of_ok (w := w) (L := L) (a := 9) (b := 10) (c := 11) (d := 12) (a' := 13) (b' := 2) (c' := 14) (d' := 4) (f := f) rfl rfl rfl rfl i9 i10 i11 i12 (by omega) (by omega) (by omega) (by omega) (by rw [tm t uM, tm t uD, tk, tm t uP]; exact i13) (by rw [tm t uD]; exact i2) (by rw [tm t uM, tm t uD, tk, tm t uP]; exact i14) (by rw [tm t uP]; exact i4)
    have of3 := of_ok (w := w) (L := L) (a := 1) (b := 2) (c := 3) (d := 4) (a' := 13) (b' := 2) (c' := 14) (d' := 4) (f := f) rfl rfl rfl rfl i1 i2 i3 i4 (by omega) (by omega) (by omega) (by omega) (by rw [tidI_id uM, tidI_id uD, tidN_id uK, tidI_id uP]; exact i13) (by rw [tidI_id uD]; exact i2) (by rw [tidI_id uM, tidI_id uD, tidN_id uK, tidI_id uP]; exact i14) (by rw [tidI_id uP]; exact i4)
    have td := td_ok (w := w) (L := L) (a := 9) (b := 10) (c := 11) (d := 12) (a' := 1) (b' := 2) (c' := 3) (d' := 4) (f := f) rfl rfl rfl rfl i9 i10 i11 i12 (by omega) (by omega) (by omega) (by omega) (by rw [tm t uM]; exact i1) (by rw [tm t uD]; exact i2) (by rw [tk]; exact i3) (by rw [tm t uP]; exact i4)
    have md1 := md_ok (w := w) (L := L) (a := 1) (b := 2) (c := 3) (d := 4) (a' := 5) (b' := 6) (c' := 7) (d' := 8) (f := f) (j := 14) rfl rfl rfl rfl rfl i1 i2 i3 i4 (by omega) (by omega) (by omega) (by omega) i5 i6 i7 i8
    have md2 := md_ok (w := w) (L := L) (a := 1) (b := 2) (c := 3) (d := 4) (a' := 9) (b' := 10) (c' := 11) (d' := 12) (f := f) (j := 15) rfl rfl rfl rfl rfl i1 i2 i3 i4 (by omega) (by omega) (by omega) (by omega) i9 i10 i11 i12
    have s1 := sm_ok (w := w) (L := L) (a := 13) (b := 2) (c := 14) (d := 4) (f := f) rfl rfl rfl rfl i13 i2 i14 i4 (by omega) (by omega) (by omega) (by omega)
    have s2 := sm_ok (w := w) (L := L) (a := 1) (b := 2) (c := 3) (d := 4) (f := f) rfl rfl rfl rfl i1 i2 i3 i4 (by omega) (by omega) (by omega) (by omega)
    exact symB L 60 an an an (@anyP_ok L _ _ _ _ _ (ac (awake_ok hT) (ac (light_ok hv hX hl) (ac (full_ok hv rfl rfl rfl rfl rfl hX hl i1 i2 i3 i4) (ac md1 (ac md2 (ac of1 (ac of2 (ac of3 (ac td (ac s1 (ac s2 an)))))))))))) (nm_args hv rfl rfl rfl) nm_run
end Go.Proofs.YtnggajehngemmaaGreatDoor
