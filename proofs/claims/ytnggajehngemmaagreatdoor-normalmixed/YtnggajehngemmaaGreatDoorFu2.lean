/-
  slices.Clone at the law's weekdays: a list of the call's own.
-/
import Derived.Test.YtnggajehngemmaaGreatDoorNc
import Derived.Test.YtnggajehngemmaaGreatDoorKop
import Derived.Test.YtnggajehngemmaaGreatDoorOpenX
namespace Go.Proofs.YtnggajehngemmaaGreatDoor
open Go.RowKit Go.Lib
theorem add_two (a : Addr) (i j : Nat) : (a.add i).add j = a.add (i + j) := by
  by_cases hi : i = 0 <;> by_cases hj : j = 0 <;> simp [Addr.add, hi, hj, Nat.add_assoc]
theorem flatW_get : ∀ (M : List (Int × Int)) (k : Nat) (hk : k < M.length), (flatW M)[k * 2]? = some (.int .i8 M[k].1) ∧ (flatW M)[k * 2 + 1]? = some (.int .u8 M[k].2)
  | [], k, hk => absurd hk (Nat.not_lt_zero k)
  | x :: M, 0, _ => ⟨rfl, rfl⟩
  | x :: M, k + 1, hk => by
    have := flatW_get M k (by simpa using hk)
    rw [show (k + 1) * 2 = k * 2 + 2 by omega]
    simpa [flatW] using this
theorem flatW_at {w : World} {a : Addr} {L : List (Int × Int)} (h : WksIn w (some a) L) (j : Nat) (u : Value) (hj : (flatW L)[j]? = some u) : w.cell? (a.add j) = some u := by
  have hl := flatW_len L
  have hlt : j < L.length * 2 := by rw [← hl]; exact (List.getElem?_eq_some_iff.1 hj).1
  have hk : j / 2 < L.length := by omega
  obtain ⟨ad, e, _, c1, c2⟩ := h (j / 2) hk
  obtain rfl := Option.some.inj e
  obtain ⟨f1, f2⟩ := flatW_get L (j / 2) hk
  rcases Nat.mod_two_eq_zero_or_one j with hm | hm
  · rw [show j / 2 * 2 = j by omega] at f1 c1
    rw [c1, ← hj, f1]
  · rw [show j / 2 * 2 + 1 = j by omega] at f2
    rw [add_two, show j / 2 * 2 + 1 = j by omega] at c2
    rw [c2, ← hj, f2]
set_option maxHeartbeats 2000000 in
set_option maxRecDepth 100000 in
theorem cloneW_any {w : World} {A : Option Addr} {c : Nat} {L : List (Int × Int)} (h : WksIn w A L) (hl : L.length ≤ 1000000) :
    Calls Tryz.prog cwF #[.slice A L.length c] w fun e w' => ∃ v', e = .returned v' ∧ w'.ownsRow w.heap.size tWk 2 v' L.length (flatW L) ∧ Below w.heap.size w w' := by
  have q22 : ∀ (w : World) (a : Option Addr) (n c n' c' : Nat), (binOp .eql 26 (.slice a n c) (.slice none n' c')).run Tryz.prog w = .ok (.bool a.isNone) w := fun w a n c n' c' => Lib.run_eql_slice_nil w _ _ a n c n' c' Tryz.underlying26
  cases A with
  | none =>
    obtain rfl : L = [] := by
      cases L with
      | nil => rfl
      | cons x L => obtain ⟨ad, e, _⟩ := h 0 (by simp); cases e
    go_enter Tryz.func28, Tryz.ntmps28
    go_wp2
    go_ret
    exact ⟨_, rfl, ⟨rfl, .inl ⟨rfl, rfl⟩⟩, Below.refl _ _⟩
  | some a =>
    obtain ⟨i0, hi, hz0, hz1, hz2⟩ := info_of (T := 59) (z := .agg #[.int .i8 0, .int .u8 0]) (n := 2) (b := 2) (by kernel_rfl) (by kernel_rfl) (by kernel_rfl)
    have B : HideP (∀ j u, (flatW L)[j]? = some u → w.cell? (a.add j) = some u) := ⟨flatW_at h⟩
    have hfl := flatW_len L
    clear h
    go_enter Tryz.func28, Tryz.ntmps28
    go_wp2_with (at_builtin; refine wpList_append_own _ rfl _ _ 26 rfl w.heap.size 59 i0 (.agg #[.int .i8 0, .int .u8 0]) 2 2 Tryz.underlying26 hi hz0 hz1 hz2 rfl (by decide) _ _ _ rfl (World.ownsRow_made w #[] 0 (Nat.le_refl _) (Nat.zero_le _) rfl) a L.length c (flatW L) rfl ?qc1 ?qc2 ?qc3 ?qc4 ?qc5 ?qc6 ?_)
    case qc1 => exact hfl
    case qc2 =>
      intro j u hj
      exact Lib.cell?_alloc_some _ (B.out j u hj)
    case qc3 => intro u hu; obtain ⟨x, _, hx⟩ := List.mem_flatMap.1 hu; simp at hx; rcases hx with rfl | rfl <;> rfl
    case qc4 => unfold maxLen; omega
    case qc5 => omega
    case qc6 => simp
    intro v' w1 hown hgrow hnil
    go_wp2
    go_ret
    refine ⟨v', rfl, ?_, ?_⟩
    · simpa using hown
    · exact ((Below.refl _ w).alloc (Nat.le_refl _) _).grown hgrow (by simp) (by intro k hk; simp [Value.ownBlock] at hk; omega)
end Go.Proofs.YtnggajehngemmaaGreatDoor
/-
  kalendslaw04.Full: what it leaves, whatever the argument.
-/
namespace Go.Proofs.YtnggajehngemmaaGreatDoor
open Go Go.RowKit
section
variable {L : Ltr} {B : Nat} {w' : World} {f iv cn u : Int} {us : List Value} {bs : List Nat}
/-- a rule that a run has left, by its letters -/
theorem rule_of' {i j k l a b c d : Nat} {M D : List Int} {W : List (Int × Int)} {P : List Int} (h0 : L.v i = some (.int .i64 f)) (h1 : L.v j = some (.int .i64 iv)) (h2 : L.v k = some (.int .i64 cn)) (h3 : L.v l = some (.int .i64 u))
    (hM : @IsL L a tI 1 M.length (cellI M)) (hD : @IsL L b tI 1 D.length (cellI D)) (hW : @IsL L c tN 2 W.length (flatN W)) (hP : @IsL L d tI 1 P.length (cellI P))
    (h : @RNewL L B w' [Lt i, Lt j, Lt k, Lt l, TOK 0 a, TOK 0 b, TOK 0 c, TOK 0 d] us bs) (hd : bs.Nodup) (hg : ∀ b ∈ bs, B ≤ b) : RuleN B w' f iv cn u M D W P (.agg ⟨us⟩) := by
  obtain ⟨z0, l0, c0, d0, rfl, rfl, ⟨rfl, r0⟩, z1, l1, c1, d1, rfl, rfl, ⟨rfl, r1⟩, z2, l2, c2, d2, rfl, rfl, ⟨rfl, r2⟩, z3, l3, c3, d3, rfl, rfl, ⟨rfl, r3⟩, z4, l4, c4, d4, rfl, rfl, r4, z5, l5, c5, d5, rfl, rfl, r5, z6, l6, c6, d6, rfl, rfl, r6, z7, l7, c7, d7, rfl, rfl, r7, rfl, rfl⟩ := h
  simp only [List.nil_append, List.append_nil] at hd hg
  rw [rel_int h0 r0, rel_int h1 r1, rel_int h2 r2, rel_int h3 r3]
  exact ⟨z4, z5, z6, z7, c4, c5, c6, c7, rfl, (@RNew.iff L _ _ _ _ _ hM _ 0 _ _ _).1 r4, (@RNew.iff L _ _ _ _ _ hD _ 0 _ _ _).1 r5, (@RNew.iff L _ _ _ _ _ hW _ 0 _ _ _).1 r6, (@RNew.iff L _ _ _ _ _ hP _ 0 _ _ _).1 r7, hd, hg⟩
/-- and so a known call leaves it -/
theorem rule_new {i j k l a b c d : Nat} {M D : List Int} {W : List (Int × Int)} {P : List Int} {r : Value} (h0 : L.v i = some (.int .i64 f)) (h1 : L.v j = some (.int .i64 iv)) (h2 : L.v k = some (.int .i64 cn)) (h3 : L.v l = some (.int .i64 u))
    (hM : @IsL L a tI 1 M.length (cellI M)) (hD : @IsL L b tI 1 D.length (cellI D)) (hW : @IsL L c tN 2 W.length (flatN W)) (hP : @IsL L d tI 1 P.length (cellI P))
    (h : RuleN B w' f iv cn u M D W P r) : ∃ bs, @RNew1 L B w' (.agg ⟨[Lt i, Lt j, Lt k, Lt l, TOK 0 a, TOK 0 b, TOK 0 c, TOK 0 d]⟩) r bs ∧ bs.Nodup ∧ ∀ b ∈ bs, B ≤ b := by
  obtain ⟨sM, sD, sW, sP, b1, b2, b3, b4, rfl, r4, r5, r6, r7, hd, hg⟩ := h
  refine ⟨b1 ++ (b2 ++ (b3 ++ b4)), ⟨_, rfl, ?_⟩, hd, hg⟩
  refine ⟨_, _, [], _, rfl, rfl, ⟨rfl, @to_ltr L i _ h0 rfl⟩, _, _, [], _, rfl, rfl, ⟨rfl, @to_ltr L j _ h1 rfl⟩, _, _, [], _, rfl, rfl, ⟨rfl, @to_ltr L k _ h2 rfl⟩, _, _, [], _, rfl, rfl, ⟨rfl, @to_ltr L l _ h3 rfl⟩, ?_⟩
  exact ⟨_, _, b1, _, rfl, rfl, (@RNew.iff L _ _ _ _ _ hM _ 0 _ _ _).2 r4, _, _, b2, _, rfl, rfl, (@RNew.iff L _ _ _ _ _ hD _ 0 _ _ _).2 r5, _, _, b3, _, rfl, rfl, (@RNew.iff L _ _ _ _ _ hW _ 0 _ _ _).2 r6, _, _, b4, [], rfl, (List.append_nil _).symm, (@RNew.iff L _ _ _ _ _ hP _ 0 _ _ _).2 r7, rfl, rfl⟩
end
theorem own_bs {w' : World} {B t z N : Nat} {vs : List Value} {u : Value} (h : w'.ownsRow B t z u N vs) {B' : Nat} (hB : B' ≤ B) : ∃ bs, NewL B' w' t z N vs u bs ∧ bs.Nodup ∧ (∀ b ∈ bs, B ≤ b) ∧ ∀ b ∈ bs, u.ownBlock = some b := by
  obtain ⟨bs, h1, h2, h3⟩ := NewL.of h (Nat.le_refl _)
  refine ⟨bs, ?_, h2, fun b hb => ?_, h3⟩
  · rcases h1 with h | ⟨b, k, y, e1, e2, hb, rest⟩
    · exact .inl h
    · exact .inr ⟨b, k, y, e1, e2, Nat.le_trans hB hb, rest⟩
  · rcases h1 with ⟨_, _, rfl⟩ | ⟨b', k, y, _, rfl, hb', _⟩
    · cases hb
    · rw [List.mem_singleton.1 hb]
      exact hb'
/-- what the law's Make leaves, as a rule of its own -/
theorem four_new {w' : World} {n0 : Nat} {f iv cn u : Int} {A1 A2 A3 A4 : Option Addr} {c1 c2 c3 c4 : Nat} {M D : List Int} {K : List (Int × Int)} {P : List Int} {tD tW tP : Nat} (h : Four w' n0 A1 A2 A3 A4 c1 c2 c3 c4 M D K P tD tW tP) :
    RuleN n0 w' f iv cn u M D K P (.agg #[.int .i64 f, .int .i64 iv, .int .i64 cn, .int .i64 u, .slice A1 M.length c1, .slice A2 D.length c2, .slice A3 K.length c3, .slice A4 P.length c4]) := by
  have hD := h.hD
  have hW := h.hW
  have hP := h.hP
  obtain ⟨b1, n1, d1, g1, o1⟩ := own_bs h.oM (Nat.le_refl n0)
  obtain ⟨b2, n2, d2, g2, o2⟩ := own_bs h.oD (B' := n0) (by omega)
  obtain ⟨b3, n3, d3, g3, o3⟩ := own_bs h.oW (B' := n0) (by omega)
  obtain ⟨b4, n4, d4, g4, o4⟩ := own_bs h.oP (B' := n0) (by omega)
  have u1 : ∀ b ∈ b1, b < tD := fun b hb => h.gM b (o1 b hb)
  have u2 : ∀ b ∈ b2, b < tW := fun b hb => h.gD b (o2 b hb)
  have u3 : ∀ b ∈ b3, b < tP := fun b hb => h.gW b (o3 b hb)
  refine ⟨_, _, _, _, b1, b2, b3, b4, rfl, n1, n2, n3, n4, ?_, ?_⟩
  · refine List.nodup_append.2 ⟨d1, List.nodup_append.2 ⟨d2, List.nodup_append.2 ⟨d3, d4, fun a ha b hb e => ?_⟩, fun a ha b hb e => ?_⟩, fun a ha b hb e => ?_⟩
    · have := u3 a ha
      have := g4 b hb
      omega
    · have := u2 a ha
      rcases List.mem_append.1 hb with hb | hb
      · have := g3 b hb; omega
      · have := g4 b hb; omega
    · have := u1 a ha
      rcases List.mem_append.1 hb with hb | hb
      · have := g2 b hb; omega
      · rcases List.mem_append.1 hb with hb | hb
        · have := g3 b hb; omega
        · have := g4 b hb; omega
  · intro b hb
    rcases List.mem_append.1 hb with hb | hb
    · exact g1 b hb
    · rcases List.mem_append.1 hb with hb | hb
      · have := g2 b hb; omega
      · rcases List.mem_append.1 hb with hb | hb
        · have := g3 b hb; omega
        · have := g4 b hb; omega
/-- all months, or those given -/
def lmN (b : Bool) (lm : List Int) : List Int := bif b then (List.range 12).map fun (d : Nat) => (d : Int) else lm
def lwN (b : Bool) (lw : List (Int × Int)) : List (Int × Int) := bif b then lw ++ wkN 7 else lw
def lpN (b : Bool) (lp : List Int) : List Int := bif b then [] else lp
theorem allR_u8 [Ltr] {w : World} : ∀ (l : List Nat) (y : List Value), AllR (TRel w 1) (l.map fun d => Value.int .u8 (d : Nat)) y → y = l.map fun d => Value.int .u8 (d : Nat)
  | [], y, h => h
  | d :: l, y, h => by
    obtain ⟨v, l', rfl, ⟨E, r⟩, t⟩ := h
    rw [Rel.flat_eq rfl r, allR_u8 l l' t]
    rfl
theorem row_cell {w : World} {b j : Nat} {y : List Value} {t : TypeId} (h : w.heap[b]? = some (.cells ⟨y⟩ t (0, 0))) : w.cell? (((⟨b, 0, none⟩ : Addr)).add j) = y[j]? := by
  have hB : Blk w b t ⟨y⟩ := h
  rw [Addr.add_lit, Nat.zero_add, hB.cell]
  simp
section
variable {L : Ltr} {w : World}
theorem fu_m {b : Bool} {AM : Option Addr} {cM : Nat} {lm : List Int} {z : Value} (h5 : L.v 5 = some (.slice AM lm.length cM)) (hm : NumsIn .u8 w AM lm) (h : @TRel L w 2 (bif b then .iface 12 (.tuple ⟨fuMo⟩) else Lt 5) z) : ∃ P c, z = .slice P (lmN b lm).length c ∧ NumsIn .u8 w P (lmN b lm) := by
  cases b with
  | false =>
    obtain ⟨E, r⟩ := h
    exact ⟨AM, cM, @is_ltr L 5 _ h5 _ _ r, hm⟩
  | true =>
    obtain ⟨b, c, y, t, rfl, hy, ha⟩ := h
    obtain rfl := @allR_u8 L w _ _ ha
    refine ⟨_, c, rfl, fun i hi => ⟨_, rfl, (Array.getElem?_eq_some_iff.1 hy).1, ?_⟩⟩
    have hi : i < 12 := hi
    rw [row_cell hy]
    simp [lmN, hi]
theorem fu_w {b : Bool} {AW : Option Addr} {cW : Nat} {lw : List (Int × Int)} {z : Value} (h7 : L.v 7 = some (.slice AW lw.length cW)) (hw : WksIn w AW lw) (h17 : @IsL L 17 tWk 2 (lw.length + 7) (flatW (lw ++ wkN 7))) (h : @TRel L w 2 (bif b then TOK 0 17 else Lt 7) z) : ∃ P c, z = .slice P (lwN b lw).length c ∧ WksIn w P (lwN b lw) := by
  cases b with
  | false =>
    obtain ⟨E, r⟩ := h
    exact ⟨AW, cW, @is_ltr L 7 _ h7 _ _ r, hw⟩
  | true =>
    have h : @TokAt L w 17 z := h
    have hl : (lwN true lw).length = lw.length + 7 := by simp [lwN, wkN_len]
    rcases (@TokAt.own' L _ _ _ _ _ _ _ h h17).2 with ⟨rfl, hn⟩ | ⟨g, cap, cur, rfl, hb, hg, h1, h2, h3, h4⟩
    · omega
    · refine ⟨_, cap, by rw [hl], fun k hk => ⟨_, rfl, (Array.getElem?_eq_some_iff.1 hg).1, ?_⟩⟩
      have hB : Blk w g _ cur := hg
      have h4 : cur.toList.take ((lw.length + 7) * 2) = flatW (lwN true lw) := h4
      have at' : ∀ j, j < (lw.length + 7) * 2 → w.cell? (((⟨g, 0, none⟩ : Addr)).add j) = (flatW (lwN true lw))[j]? := fun j hj => by
        rw [Addr.add_lit, Nat.zero_add, hB.cell, ← Array.getElem?_toList, ← h4, List.getElem?_take_of_lt hj]
      have fl := flatW_get (lwN true lw) k hk
      rw [add_two, at' _ (by omega), at' _ (by omega), fl.1, fl.2]
      exact ⟨rfl, rfl⟩
theorem fu_p {b : Bool} {AP : Option Addr} {cP : Nat} {lp : List Int} {z : Value} (h8 : L.v 8 = some (.slice AP lp.length cP)) (hp : NumsIn .i16 w AP lp) (h : @TRel L w 2 (bif b then .slice none 0 0 else Lt 8) z) : ∃ P c, z = .slice P (lpN b lp).length c ∧ NumsIn .i16 w P (lpN b lp) := by
  cases b with
  | false =>
    obtain ⟨E, r⟩ := h
    exact ⟨AP, cP, @is_ltr L 8 _ h8 _ _ r, hp⟩
  | true =>
    obtain ⟨E, r⟩ := h
    exact ⟨none, 0, @Rel.flat_eq E L _ _ rfl r, fun i hi => absurd hi (Nat.not_lt_zero i)⟩
end
theorem nums_kept {k : IntKind} {w w' : World} {A : Option Addr} {l : List Int} (h : NumsIn k w A l) (hk : ∀ b, (kep w) b → w'.heap[b]? = (kep w).ob b) : NumsIn k w' A l := fun i hi => by
  obtain ⟨ad, rfl, hlt, hc⟩ := h i hi
  have hc' := cell_keep hc hk
  have := World.block_lt_of_cell? _ _ hc'
  rw [block_add] at this
  exact ⟨ad, rfl, this, hc'⟩
theorem wks_kept {w w' : World} {A : Option Addr} {l : List (Int × Int)} (h : WksIn w A l) (hk : ∀ b, (kep w) b → w'.heap[b]? = (kep w).ob b) : WksIn w' A l := fun i hi => by
  obtain ⟨ad, rfl, hlt, hc, hd⟩ := h i hi
  have hc' := cell_keep hc hk
  have := World.block_lt_of_cell? _ _ hc'
  rw [block_add] at this
  exact ⟨ad, rfl, this, hc', cell_keep hd hk⟩
theorem x_kept {w w' : World} {F I E C U : Int} {AM AD AW AP : Option Addr} {lm ld : List Int} {lw : List (Int × Int)} {lp : List Int} (h : XIn0 w F I E C U AM AD AW AP lm ld lw lp) (k : ∀ b, (kep w) b → w'.heap[b]? = (kep w).ob b) : XIn0 w' F I E C U AM AD AW AP lm ld lw lp :=
  ⟨h.bF, h.bI, h.bE, h.bC, h.bU, nums_kept h.m k, nums_kept h.d k, wks_kept h.k k, nums_kept h.p k, h.bm, h.bd, h.bk, h.bp, h.lm1, h.ld1, h.lw1, h.lp1⟩
def fuTb (M D : List Int) (K : List (Int × Int)) (P : List Int) (lw : List (Int × Int)) (a : Nat) : Option (TypeId × Nat × Nat × List Value) :=
  if a = 1 then some (tI, 1, M.length, cellI M) else if a = 2 then some (tI, 1, D.length, cellI D) else if a = 3 then some (tN, 2, K.length, flatN K) else if a = 4 then some (tI, 1, P.length, cellI P) else if 10 ≤ a then some (tWk, 2, lw.length + (a - 10), flatW (lw ++ wkN (a - 10))) else none
theorem fuTb_w {M D : List Int} {K : List (Int × Int)} {P : List Int} {lw : List (Int × Int)} (d : Nat) : fuTb M D K P lw (10 + d) = some (tWk, 2, lw.length + d, flatW (lw ++ wkN d)) := by
  unfold fuTb
  rw [if_neg (by omega), if_neg (by omega), if_neg (by omega), if_neg (by omega), if_pos (by omega), Nat.add_sub_cancel_left]
section
variable {w : World} {F I E C U : Int} {AM AD AW AP : Option Addr} {cM cD cW cP : Nat} {lm ld : List Int} {lw : List (Int × Int)} {lp : List Int}
/-- what Full makes -/
def FullR (B : Nat) (w' : World) (F I E C U : Int) (lm ld : List Int) (lw : List (Int × Int)) (lp : List Int) (r : Value) : Prop :=
  RuleN B w' (F.tmod 4) (Mk.iv I) (Mk.cnt E C) (Mk.unt E U) (Mk.mon lm) (Mk.D F ld) ((Mk.W F lw).map (·.1)) (Mk.P F lm ld lw lp) r
theorem lmN_in {b : Bool} (h : ∀ x ∈ lm, 0 ≤ x ∧ x ≤ 255) : ∀ x ∈ lmN b lm, 0 ≤ x ∧ x ≤ 255 := by
  cases b with
  | false => exact h
  | true =>
    intro x hx
    obtain ⟨d, hd, rfl⟩ := List.mem_map.1 hx
    have := List.mem_range.1 hd
    omega
theorem lwN_in {b : Bool} (h : ∀ x ∈ lw, (-128 ≤ x.1 ∧ x.1 ≤ 127) ∧ (0 ≤ x.2 ∧ x.2 ≤ 255)) : ∀ x ∈ lwN b lw, (-128 ≤ x.1 ∧ x.1 ≤ 127) ∧ (0 ≤ x.2 ∧ x.2 ≤ 255) := by
  cases b with
  | false => exact h
  | true =>
    intro x hx
    rcases List.mem_append.1 hx with hx | hx
    · exact h x hx
    · obtain ⟨d, hd, rfl⟩ := List.mem_map.1 hx
      have := List.mem_range.1 hd
      exact ⟨⟨by show (-128 : Int) ≤ 0; omega, by show (0 : Int) ≤ 127; omega⟩, by show (0 : Int) ≤ d; omega, by show (d : Int) ≤ 255; omega⟩
theorem lpN_in {b : Bool} (h : ∀ x ∈ lp, -32768 ≤ x ∧ x ≤ 32767) : ∀ x ∈ lpN b lp, -32768 ≤ x ∧ x ≤ 32767 := by
  cases b with
  | false => exact h
  | true => exact fun x hx => by cases hx
theorem lmN_len {b : Bool} (h : lm.length ≤ 20) : (lmN b lm).length ≤ 20 := by
  cases b with
  | false => exact h
  | true => simp [lmN]
theorem lwN_len {b : Bool} (h : lw.length ≤ 20) : (lwN b lw).length ≤ 27 := by
  cases b with
  | false => show lw.length ≤ 27; omega
  | true => simp [lwN, wkN_len]; omega
theorem lpN_len {b : Bool} (h : lp.length ≤ 20) : (lpN b lp).length ≤ 20 := by
  cases b with
  | false => exact h
  | true => exact Nat.zero_le _
/-- what tells which lists are full -/
def fb (what m : Int) : Bool := bits .and .u8 what m == m
theorem full_any (hX : XIn0 w F I E C U AM AD AW AP lm ld lw lp) (hl : light lm ld lw lp = true) (what : Int) :
    Calls Tryz.prog fuF #[.agg #[.int .u8 F, .int .u8 I, .int .u8 E, .int .u16 C, .int .u32 U, .slice AM lm.length cM, .slice AD ld.length cD, .slice AW lw.length cW, .slice AP lp.length cP], .int .u8 what] w fun e w' => ∃ r, e = .returned r ∧ Below w.heap.size w w' ∧ FullR w.heap.size w' F I E C U (lmN (fb what 1) lm) ld (lwN (fb what 2) lw) (lpN (fb what 4) lp) r := by
  obtain ⟨l1, l2, l3, l4⟩ : lm.length ≤ 20 ∧ ld.length ≤ 20 ∧ lw.length ≤ 20 ∧ lp.length ≤ 20 := by simpa [light] using hl
  let b0 : Bool := fb what 1
  let b1 : Bool := fb what 2
  let b2 : Bool := fb what 4
  let T := fuTb (Mk.mon (lmN b0 lm)) (Mk.D F ld) ((Mk.W F (lwN b1 lw)).map (·.1)) (Mk.P F (lmN b0 lm) ld (lwN b1 lw) (lpN b2 lp)) lw
  let fv : Nat → Option Value := fun i => [Value.int .u8 F, .int .u8 I, .int .u8 E, .int .u16 C, .int .u32 U, .slice AM lm.length cM, .slice AD ld.length cD, .slice AW lw.length cW, .slice AP lp.length cP, .int .u8 what, .int .i64 (F.tmod 4), .int .i64 (Mk.iv I), .int .i64 (Mk.cnt E C), .int .i64 (Mk.unt E U), .int .u8 (bits .and .u8 what 1), .int .u8 (bits .and .u8 what 2), .int .u8 (bits .and .u8 what 4)][i]?
  let L : Ltr := tabL fv T
  have i1 : @IsL L 1 tI 1 _ (cellI (Mk.mon (lmN b0 lm))) := tab_is rfl (cellI_len _) (by omega)
  have i2 : @IsL L 2 tI 1 _ (cellI (Mk.D F ld)) := tab_is rfl (cellI_len _) (by omega)
  have i3 : @IsL L 3 tN 2 _ (flatN ((Mk.W F (lwN b1 lw)).map (·.1))) := tab_is rfl (flatN_len _) (by omega)
  have i4 : @IsL L 4 tI 1 _ (cellI (Mk.P F (lmN b0 lm) ld (lwN b1 lw) (lpN b2 lp))) := tab_is rfl (cellI_len _) (by omega)
  have iw : ∀ d, @IsL L (10 + d) tWk 2 (lw.length + d) (flatW (lw ++ wkN d)) := fun d => tab_is (fuTb_w d) (by rw [flatW_len]; simp [wkN_len]) (by omega)
  have hO : ∀ e ∈ fuO b0 b1 b2, @OEOkX L Tryz.prog (kep w) e :=
    ac (@and_ok L 9 14 what 1 rfl rfl).x (ac (@li L .eql 14 _ (.int .u8 1) (.bool b0) (.bool b0) rfl rfl rfl (@to_flat L _ rfl)).x (ac (@and_ok L 9 15 what 2 rfl rfl).x (ac (@li L .eql 15 _ (.int .u8 2) (.bool b1) (.bool b1) rfl rfl rfl (@to_flat L _ rfl)).x (ac (@and_ok L 9 16 what 4 rfl rfl).x (ac (@li L .eql 16 _ (.int .u8 4) (.bool b2) (.bool b2) rfl rfl rfl (@to_flat L _ rfl)).x an)))))
  have hP : ∀ p ∈ fuP b0 b1 b2, @PrimOk L Tryz.prog p 64 (kep w) 64 := by
    refine ac ?_ (ac ?_ an)
    · refine @tokP_ok L _ _ _ _ _ _ _ fun w1 args' k ha => ?_
      obtain ⟨_, _, rfl, ⟨E7, r7⟩, rfl⟩ := ha
      rw [@is_ltr L 7 _ rfl _ _ r7]
      refine (cloneW_any (wks_kept hX.k k) (by omega)).mono ?_
      rintro e w2 ⟨u, rfl, ho, hb⟩
      obtain ⟨bs, n1, d1, g1, -⟩ := own_bs ho (Nat.le_refl _)
      refine ⟨u, bs, rfl, hb, (@RNew.iff L _ _ _ _ _ (iw 0) _ 0 _ _ _).2 ?_, d1, g1⟩
      simpa [wkN] using n1
    · refine @tokP_ok L _ _ _ _ _ _ _ fun w1 args' k ha => ?_
      obtain ⟨_, _, rfl, ⟨y, rfl, z0, _, rfl, ⟨E0, r0⟩, z1, _, rfl, ⟨E1, r1⟩, z2, _, rfl, ⟨E2, r2⟩, z3, _, rfl, ⟨E3, r3⟩, z4, _, rfl, ⟨E4, r4⟩, z5, _, rfl, h5, z6, _, rfl, ⟨E6, r6⟩, z7, _, rfl, h7, z8, _, rfl, h8, rfl⟩, rfl⟩ := ha
      rw [@is_ltr L 0 _ rfl _ _ r0, @is_ltr L 1 _ rfl _ _ r1, @is_ltr L 2 _ rfl _ _ r2, @is_ltr L 3 _ rfl _ _ r3, @is_ltr L 4 _ rfl _ _ r4, @is_ltr L 6 _ rfl _ _ r6]
      obtain ⟨P5, c5, rfl, n5⟩ := fu_m (L := L) rfl (nums_kept hX.m k) h5
      obtain ⟨P7, c7, rfl, n7⟩ := fu_w (L := L) rfl (wks_kept hX.k k) (iw 7) h7
      obtain ⟨P8, c8, rfl, n8⟩ := fu_p (L := L) rfl (nums_kept hX.p k) h8
      have q1 := lmN_len (b := b0) l1
      have q3 := lwN_len (b := b1) l3
      have q4 := lpN_len (b := b2) l4
      refine (make_any' F I E C U P5 AD P7 P8 c5 cD c7 c8 _ ld _ _ w1 ⟨hX.bF, hX.bI, hX.bE, hX.bC, hX.bU, n5, nums_kept hX.d k, n7, n8, lmN_in hX.bm, hX.bd, lwN_in hX.bk, lpN_in hX.bp, by omega, by omega, by omega, by omega⟩).mono ?_
      rintro e w2 ⟨v, rfl, A1, A2, A3, A4, c1, c2, c3, c4, tD, tW, tP, rfl, h4, hb⟩
      obtain ⟨bs, q1, q2, q3⟩ := rule_new (L := L) (i := 10) (j := 11) (k := 12) (l := 13) (a := 1) (b := 2) (c := 3) (d := 4) rfl rfl rfl rfl i1 i2 i3 i4 (four_new h4)
      exact ⟨_, bs, rfl, hb, q1, q2, q3⟩
  have ha : @RelL L (startE 64) [fuX, Lt 9] [.agg ⟨[.int .u8 F, .int .u8 I, .int .u8 E, .int .u16 C, .int .u32 U, .slice AM lm.length cM, .slice AD ld.length cD, .slice AW lw.length cW, .slice AP lp.length cP]⟩, .int .u8 what] :=
    .cons (.agg (.cons (.ltr rfl rfl) (.cons (.ltr rfl rfl) (.cons (.ltr rfl rfl) (.cons (.ltr rfl rfl) (.cons (.ltr rfl rfl) (.cons (.ltr rfl rfl) (.cons (.ltr rfl rfl) (.cons (.ltr rfl rfl) (.cons (.ltr rfl rfl) .nil)))))))))) (.cons (.ltr rfl rfl) .nil)
  refine (symT L 60 hO (fuM_ok (fun d _ => fuTb_w d) (by omega)) an (@anyP_ok L _ _ _ _ _ hP) ha (fu_run b0 b1 b2)).mono ?_
  rintro e w' ⟨us, bs, rfl, hb, hr, hd, hg⟩
  exact ⟨_, rfl, hb, rule_of' (L := L) rfl rfl rfl rfl i1 i2 i3 i4 hr hd hg⟩
end
end Go.Proofs.YtnggajehngemmaaGreatDoor
