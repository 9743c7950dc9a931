/-
  The law ExpandSteps: every call of it returns true, from a world that holds the tables.
-/
import Derived.Test.YtkcolbeemmnolaaGreatDoorBs5X
import Derived.Test.YtkcolbeemmnolaaGreatDoorXs5
import Derived.Test.YtkcolbeemmnolaaGreatDoorLaws0
namespace Go.Proofs.YtkcolbeemmnolaaGreatDoor
open Go Go.RowKit
theorem first_bad (p : Nat → Bool) (h0 : p 0 = true) : ∀ n, ∃ m, 1 ≤ m ∧ m ≤ n + 1 ∧ (∀ j < m, p j = true) ∧ (m = n + 1 ∨ p m = false)
  | 0 => ⟨1, by omega, by omega, fun j hj => by obtain rfl : j = 0 := by omega
                                                exact h0, .inl rfl⟩
  | n + 1 => by
    obtain ⟨m, h1, h2, h3, h4⟩ := first_bad p h0 n
    rcases h4 with rfl | h4
    · cases hp : p (n + 1) with
      | true => exact ⟨n + 2, by omega, by omega, fun j hj => by
          rcases Nat.lt_or_ge j (n + 1) with h | h
          · exact h3 j h
          · obtain rfl : j = n + 1 := by omega
            exact hp, .inl rfl⟩
      | false => exact ⟨n + 1, by omega, by omega, h3, .inr hp⟩
    · exact ⟨m, h1, by omega, h3, .inr h4⟩
def stV (base : List Value) (f I : Nat) (i : Int) (x : Nat) : Option Value := if x < 21 then base[x]? else if (x - 21) % 3 = 0 then some (.int .i64 (Cal.ps f (i + ((x - 21) / 3 * I : Nat)))) else if (x - 21) % 3 = 1 then some (.int .i64 (Cal.pe f (i + ((x - 21) / 3 * I : Nat)))) else some (.int .i64 (Cal.lat f (i + ((x - 21) / 3 * I : Nat)) I))
abbrev stLo (base : List Value) (f I : Nat) (i : Int) : Ltr := ⟨stV base f I i, fun _ _ => True, fun _ _ _ => False, fun _ _ _ _ => False, fun _ _ => False, fun _ => 0⟩
theorem stV_0 (base : List Value) (f I : Nat) (i : Int) (j : Nat) : stV base f I i (21 + 3 * j) = some (.int .i64 (Cal.ps f (i + (j * I : Nat)))) := by
  unfold stV
  rw [if_neg (by omega), if_pos (by omega), show (21 + 3 * j - 21) / 3 = j by omega]
theorem stV_1 (base : List Value) (f I : Nat) (i : Int) (j : Nat) : stV base f I i (22 + 3 * j) = some (.int .i64 (Cal.pe f (i + (j * I : Nat)))) := by
  unfold stV
  rw [if_neg (by omega), if_neg (by omega), if_pos (by omega), show (22 + 3 * j - 21) / 3 = j by omega]
theorem stV_2 (base : List Value) (f I : Nat) (i : Int) (j : Nat) : stV base f I i (23 + 3 * j) = some (.int .i64 (Cal.lat f (i + (j * I : Nat)) I)) := by
  unfold stV
  rw [if_neg (by omega), if_neg (by omega), if_neg (by omega), show (23 + 3 * j - 21) / 3 = j by omega]
theorem lt_keep {w' : World} {A : Addr} {v : Value} (h : w'.cell? A = some v) : A.block < w'.heap.size := World.block_lt_of_cell? _ _ h
theorem NumsIn.kept {k : IntKind} {w w' : World} {A : Option Addr} {l : List Int} (h : NumsIn k w A l) (hk : ∀ b, (kep w) b → w'.heap[b]? = (kep w).ob b) : NumsIn k w' A l := fun i hi => by
  obtain ⟨ad, rfl, hlt, hc⟩ := h i hi
  have hc' := cell_keep hc hk
  have := lt_keep hc'
  rw [block_add] at this
  exact ⟨ad, rfl, this, hc'⟩
theorem WksIn.kept {w w' : World} {A : Option Addr} {l : List (Int × Int)} (h : WksIn w A l) (hk : ∀ b, (kep w) b → w'.heap[b]? = (kep w).ob b) : WksIn w' A l := fun i hi => by
  obtain ⟨ad, rfl, hlt, hc, hd⟩ := h i hi
  have hc' := cell_keep hc hk
  have := lt_keep hc'
  rw [block_add] at this
  exact ⟨ad, rfl, this, hc', cell_keep hd hk⟩
theorem XIn0.kept {w w' : World} {F I E C U : Int} {AM AD AW AP : Option Addr} {lm ld : List Int} {lw : List (Int × Int)} {lp : List Int} (h : XIn0 w F I E C U AM AD AW AP lm ld lw lp) (k : ∀ b, (kep w) b → w'.heap[b]? = (kep w).ob b) : XIn0 w' F I E C U AM AD AW AP lm ld lw lp :=
  ⟨h.bF, h.bI, h.bE, h.bC, h.bU, h.m.kept k, h.d.kept k, h.k.kept k, h.p.kept k, h.bm, h.bd, h.bk, h.bp, h.lm1, h.ld1, h.lw1, h.lp1⟩
/-- the argument's letters are known -/
def xAt [Ltr] (l : List Value) : Prop := ∀ i < 9, Ltr.v i = l[i]?
theorem xA_of [Ltr] {x0 x1 x2 x3 x4 x5 x6 x7 x8 : Value} (h : xAt [x0, x1, x2, x3, x4, x5, x6, x7, x8]) {E : Ren} {a : List Value} (r : RelL E [xA] a) : a = [.agg ⟨[x0, x1, x2, x3, x4, x5, x6, x7, x8]⟩] := by
  cases r with
  | cons h1 t1 =>
    cases t1
    cases h1 with
    | same h => cases h
    | agg h2 => rw [rl_l (h 0 (by omega)) (rl_l (h 1 (by omega)) (rl_l (h 2 (by omega)) (rl_l (h 3 (by omega)) (rl_l (h 4 (by omega)) (rl_l (h 5 (by omega)) (rl_l (h 6 (by omega)) (rl_l (h 7 (by omega)) (rl_l (h 8 (by omega)) rl_nil)))))))) E _ h2]
theorem xA_rel [Ltr] {x0 x1 x2 x3 x4 x5 x6 x7 x8 : Value} (h : xAt [x0, x1, x2, x3, x4, x5, x6, x7, x8]) (s0 : sgl x0 = true) (s1 : sgl x1 = true) (s2 : sgl x2 = true) (s3 : sgl x3 = true) (s4 : sgl x4 = true) (s5 : sgl x5 = true) (s6 : sgl x6 = true) (s7 : sgl x7 = true) (s8 : sgl x8 = true) (E : Ren) : Rel E xA (.agg ⟨[x0, x1, x2, x3, x4, x5, x6, x7, x8]⟩) :=
  .agg (.cons (.ltr (h 0 (by omega)) s0) (.cons (.ltr (h 1 (by omega)) s1) (.cons (.ltr (h 2 (by omega)) s2) (.cons (.ltr (h 3 (by omega)) s3) (.cons (.ltr (h 4 (by omega)) s4) (.cons (.ltr (h 5 (by omega)) s5) (.cons (.ltr (h 6 (by omega)) s6) (.cons (.ltr (h 7 (by omega)) s7) (.cons (.ltr (h 8 (by omega)) s8) .nil)))))))))
section
variable {F I E C U : Int} {AM AD AW AP : Option Addr} {cM cD cW cP : Nat} {lm ld : List Int} {lw : List (Int × Int)} {lp : List Int} {w : World}
abbrev xL (F I E C U : Int) (AM AD AW AP : Option Addr) (cM cD cW cP : Nat) (lm ld : List Int) (lw : List (Int × Int)) (lp : List Int) : List Value := [.int .u8 F, .int .u8 I, .int .u8 E, .int .u16 C, .int .u32 U, .slice AM lm.length cM, .slice AD ld.length cD, .slice AW lw.length cW, .slice AP lp.length cP]
theorem light_pe [Ltr] {base : Nat} {t : Bool} (h : xAt (xL F I E C U AM AD AW AP cM cD cW cP lm ld lw lp)) (hX : XIn0 w F I E C U AM AD AW AP lm ld lw lp) (hl : light lm ld lw lp = t) : PEOk Tryz.prog (kep w) base (5, aggP [xA] (.bool t)) :=
  aggP_ok fun E w' args' k ha => by
    rw [xA_of h ha]
    refine (light_any _ _ _ _ _ AM AD AW AP cM cD cW cP lm ld lw lp w' hX.lm1 hX.ld1 hX.lw1 hX.lp1).mono ?_
    rintro e w2 ⟨v, rfl, rfl, hb⟩
    exact ⟨_, rfl, by rw [hl]; exact .same rfl, hb⟩
theorem make_pe [Ltr] {base : Nat} {f q : Nat} (h : xAt (xL F I E C U AM AD AW AP cM cD cW cP lm ld lw lp)) (hX : XIn0 w F I E C U AM AD AW AP lm ld lw lp) (hl : light lm ld lw lp = true) (hf : F.tmod 4 = f) (hq : Mk.iv I = q) (h12 : Ltr.v 12 = some (.int .i64 f)) (h13 : Ltr.v 13 = some (.int .i64 q)) (hQ : ∀ u, Ltr.q 0 u) : PEOk Tryz.prog (kep w) base (6, aggP [xA] (.agg ⟨[Lt 12, Lt 13, Qt 0, Qt 0, Qt 0, Qt 0, Qt 0, Qt 0]⟩)) :=
  aggP_ok fun E w' args' k ha => by
    rw [xA_of h ha]
    refine (make_any F I _ C U AM AD AW AP cM cD cW cP lm ld lw lp w' ((hX.kept k).full hl)).mono ?_
    rintro e w2 ⟨A1, A2, A3, A4, c1, c2, c3, c4, tD, tW, tP, rfl, _, hb⟩
    rw [hf, hq]
    exact ⟨_, rfl, .agg (.cons (.ltr h12 rfl) (.cons (.ltr h13 rfl) (.cons (.prd (hQ _) rfl) (.cons (.prd (hQ _) rfl) (.cons (.prd (hQ _) rfl) (.cons (.prd (hQ _) rfl) (.cons (.prd (hQ _) rfl) (.cons (.prd (hQ _) rfl) .nil)))))))), hb⟩
end
theorem iv_in {I : Int} (h : 0 ≤ I) : 1 ≤ Mk.iv I ∧ Mk.iv I ≤ 999 := by
  unfold Mk.iv
  have h1 : I.tmod 5 = I % 5 := Int.tmod_eq_emod_of_nonneg h
  have h2 : I.tmod 6 = I % 6 := Int.tmod_eq_emod_of_nonneg h
  rw [h1, h2]
  split <;> omega
theorem mul_next (j q : Nat) : (j + 1) * q = j * q + q := Nat.succ_mul j q
theorem expandSteps_walk (F I E C U : Int) (AM AD AW AP : Option Addr) (cM cD cW cP : Nat) (lm ld : List Int) (lw : List (Int × Int)) (lp : List Int) (n k : Nat) (hn : n ≤ 4294967295) (_hk : k ≤ 255) (w : World) (hT : Tab7 w) (hX : XIn0 w F I E C U AM AD AW AP lm ld lw lp) :
    Calls Tryz.prog 3 #[.agg #[.int .u8 F, .int .u8 I, .int .u8 E, .int .u16 C, .int .u32 U, .slice AM lm.length cM, .slice AD ld.length cD, .slice AW lw.length cW, .slice AP lp.length cP], .int .u32 n, .int .u8 k] w fun e w' => e = .returned (.bool true) ∧ Below w.heap.size w w' := by
  have x9 : ∀ {l : List Value} {i : Nat}, i < 9 → (xL F I E C U AM AD AW AP cM cD cW cP lm ld lw lp ++ l)[i]? = (xL F I E C U AM AD AW AP cM cD cW cP lm ld lw lp)[i]? := fun {l i} hi => List.getElem?_append_left (by exact hi)
  cases hl : light lm ld lw lp with
  | false =>
    let L : Ltr := ltrL (xL F I E C U AM AD AW AP cM cD cW cP lm ld lw lp ++ [.int .u32 n, .int .u8 k])
    have hx : @xAt L (xL F I E C U AM AD AW AP cM cD cW cP lm ld lw lp) := fun i hi => x9 hi
    exact symGF L 60 an an an (ac (@fixP_ok _ _ _ L _ _ rfl fun w' k => awk5 w' (hT.t.keep k)) (ac (@light_pe _ _ _ _ _ _ _ _ _ _ _ _ _ _ _ _ _ _ L _ _ hx hX hl) an)) (@RelL.cons L _ _ _ _ _ (@xA_rel L _ _ _ _ _ _ _ _ _ hx rfl rfl rfl rfl rfl rfl rfl rfl rfl _) (@RelL.cons L _ _ _ _ _ (@to_ltr L 9 _ rfl rfl _) (@RelL.cons L _ _ _ _ _ (@to_ltr L 10 _ rfl rfl _) (@RelL.nil L _)))) rfl st_heavy
  | true =>
    have hF0 := hX.bF
    have e4 : F.tmod 4 = F % 4 := Int.tmod_eq_emod_of_nonneg hF0.1
    obtain ⟨f, hff, hf⟩ : ∃ f : Nat, F.tmod 4 = f ∧ f < 4 := ⟨(F % 4).toNat, by omega, by omega⟩
    have hiv := iv_in hX.bI.1
    obtain ⟨q, hqq, hq1, hq⟩ : ∃ q : Nat, Mk.iv I = q ∧ 1 ≤ q ∧ q ≤ 999 := ⟨(Mk.iv I).toNat, by omega, by omega, by omega⟩
    obtain ⟨d1, d2⟩ := dayV_in n k
    obtain ⟨s, e, hper, _⟩ := Cal.parts hf d1 d2
    obtain ⟨i, hok, rfl, rfl⟩ := Cal.per_no hf hper
    obtain ⟨m, m1, m2, hall, hend⟩ := first_bad (fun j => Cal.pok f (i + (j * q : Nat))) (by simpa using hok) 12
    have hall : ∀ j < m, Cal.pok f (i + (j * q : Nat)) = true := hall
    let base : List Value := xL F I E C U AM AD AW AP cM cD cW cP lm ld lw lp ++ [.int .u32 n, .int .u8 k, .int .i64 (dayV n k), .int .i64 f, .int .i64 q]
    let L : Ltr := stLo base f q i
    have hx : @xAt L (xL F I E C U AM AD AW AP cM cD cW cP lm ld lw lp) := fun j hj => by
      show (if j < 21 then base[j]? else _) = _
      rw [if_pos (by omega)]
      exact x9 hj
    have h9 : L.v 9 = some (.int .u32 n) := rfl
    have h10 : L.v 10 = some (.int .u8 k) := rfl
    have h11 : L.v 11 = some (.int .i64 (dayV n k)) := rfl
    have h12 : L.v 12 = some (.int .i64 f) := rfl
    have h13 : L.v 13 = some (.int .i64 q) := rfl
    have hF : ∀ j, L.v (21 + 3 * j) = some (.int .i64 (Cal.ps f (i + (j * q : Nat)))) := stV_0 base f q i
    have hE : ∀ j, L.v (22 + 3 * j) = some (.int .i64 (Cal.pe f (i + (j * q : Nat)))) := stV_1 base f q i
    have hN : ∀ j, L.v (23 + 3 * j) = some (.int .i64 (Cal.lat f (i + (j * q : Nat)) q)) := stV_2 base f q i
    have nx : ∀ j : Nat, i + ((j + 1) * q : Nat) = i + (j * q : Nat) + q := fun j => by rw [mul_next]; omega
    have hF0 : L.v 21 = some (.int .i64 (Cal.ps f i)) := by have := hF 0; simpa using this
    have hE0 : L.v 22 = some (.int .i64 (Cal.pe f i)) := by have := hE 0; simpa using this
    refine symGF L 200 ?_ an ?_ ?_ (@RelL.cons L _ _ _ _ _ (@xA_rel L _ _ _ _ _ _ _ _ _ hx rfl rfl rfl rfl rfl rfl rfl rfl rfl _) (@RelL.cons L _ _ _ _ _ (@to_ltr L 9 _ h9 rfl _) (@RelL.cons L _ _ _ _ _ (@to_ltr L 10 _ h10 rfl _) (@RelL.nil L _)))) rfl (st_all m1 m2)
    · refine ac (@li L _ _ _ _ _ _ h13 rfl (xi_lt (decide_eq_false (by omega))) (@to_flat L _ rfl)).x ?_
      intro x hx
      obtain ⟨j, hj, hx⟩ := List.mem_flatMap.1 hx
      have hj := List.mem_range.1 hj
      have := Cal.no_in hf (hall j hj)
      exact ac (p := fun e => @OEOkX L Tryz.prog (kep w) e) (@ll L _ _ _ _ _ _ _ (hF j) (hF j) x_nee (@to_flat L _ rfl)).x (ac (@ll L _ _ _ _ _ _ _ (hE j) (hE j) x_nee (@to_flat L _ rfl)).x (ac (@li L _ _ _ _ _ _ (hF j) rfl (xi_eq (decide_eq_false (by omega))) (@to_flat L _ rfl)).x an)) x hx
    · intro c hc
      obtain ⟨j, hj, rfl⟩ := List.mem_map.1 hc
      have hj := List.mem_range.1 hj
      have hj12 : j < 12 ∧ j < m := by
        cases hm : Nat.blt m 13 with
        | true => rw [hm] at hj; have : m < 13 := by simpa [Nat.blt_eq] using hm
                  exact ⟨by have : j < m := hj; omega, hj⟩
        | false => rw [hm] at hj
                   have h13' : ¬ m < 13 := by intro h; rw [show Nat.blt m 13 = true by simpa [Nat.blt_eq] using h] at hm; cases hm
                   have : j < 12 := hj
                   exact ⟨this, by omega⟩
      refine st_ce L (i := i + (j * q : Nat)) (dv := dayV n k) (Nat.beq (j + 1) m) hf hq hj12.1 (hall j hj12.2) ?_ h11 h12 h13 (hF j) (hE j) (fun _ => ?_) (fun _ => ?_) w
      · rw [← nx]
        cases hb : Nat.beq (j + 1) m with
        | true =>
          have hb := Nat.eq_of_beq_eq_true hb
          rcases hend with h | h
          · omega
          · rw [← hb] at h
            exact h
        | false =>
          have hb : j + 1 ≠ m := fun h => by rw [h, Nat.beq_refl] at hb; cases hb
          exact hall (j + 1) (by omega)
      · rw [← nx, show 24 + 3 * j = 21 + 3 * (j + 1) by omega]
        exact hF (j + 1)
      · rw [← nx, show 25 + 3 * j = 22 + 3 * (j + 1) by omega]
        exact hE (j + 1)
    · refine ac (@fixP_ok _ _ _ L _ _ rfl fun w' k => awk5 w' (hT.t.keep k)) (ac (@light_pe _ _ _ _ _ _ _ _ _ _ _ _ _ _ _ _ _ _ L _ _ hx hX hl) (ac (@make_pe _ _ _ _ _ _ _ _ _ _ _ _ _ _ _ _ _ _ L _ _ _ hx hX hl hff hqq h12 h13 fun _ => trivial) (ac (@pg1 L _ _ _ _ _ _ _ (@rl_l L _ _ _ _ h9 (@rl_l L _ _ _ _ h10 (@rl_nil L))) (fun E => @Rel.ltr L E 11 _ h11 rfl) fun w' _ => day5_any n k hn w')
        (ac (@pg1 L _ _ _ _ _ _ _ (@rl_l L _ _ _ _ h12 (@rl_l L _ _ _ _ h11 (@rl_nil L))) (@duo L _ _ _ _ hF0 hE0 rfl rfl) fun w' _ => from_per hf hper w') (ac (@patP_ok _ _ _ L _ _ ?_) (ac (@patP_ok _ _ _ L _ _ ?_) (ac (@patP_ok _ _ _ L _ _ ?_) an)))))))
      · refine ac (@pg L _ _ _ _ _ _ (@rl_l L _ _ _ _ h12 (@rl_l L _ _ _ _ h11 (@rl_nil L))) (@spn L _ _ _ _ hF0 hE0 rfl rfl) fun w' k => period_per hf hper w' (hT.t.keep k)) ?_
        intro p hp
        rcases List.mem_append.1 hp with hp | hp
        · obtain ⟨j, hj, rfl⟩ := List.mem_map.1 hp
          have hj := List.mem_range.1 hj
          have hk := hall (j + 1) (by omega)
          have h23 := hN j
          have h24 := hF (j + 1)
          have h25 := hE (j + 1)
          rw [show 21 + 3 * (j + 1) = 24 + 3 * j by omega] at h24
          rw [show 22 + 3 * (j + 1) = 25 + 3 * j by omega] at h25
          rw [Cal.lat_ok (by rw [← nx]; exact hk), ← nx] at h23
          exact @pg L _ _ _ _ _ _ (@rl_l L _ _ _ _ h12 (@rl_l L _ _ _ _ h23 (@rl_nil L))) (@spn L _ _ _ _ h24 h25 rfl rfl) fun w' k => period_per hf (Cal.no_per hf hk) w' (hT.t.keep k)
        · cases hm : Nat.blt m 13 with
          | false => rw [hm] at hp; cases hp
          | true =>
            rw [hm] at hp
            have hm : m < 13 := by simpa [Nat.blt_eq] using hm
            obtain rfl := List.mem_singleton.1 hp
            rcases hend with h | h
            · omega
            · obtain ⟨j, rfl⟩ : ∃ j, m = j + 1 := ⟨m - 1, by omega⟩
              have h : Cal.pok f (i + ((j + 1) * q : Nat)) = false := h
              rw [nx] at h
              have bad := Cal.lat_no hf (hall j (by omega)) h
              have h23 := hN j
              rw [show 23 + 3 * j = 20 + 3 * (j + 1) by omega] at h23
              exact @pg L _ _ _ _ _ _ (@rl_l L _ _ _ _ h12 (@rl_l L _ _ _ _ h23 (@rl_nil L))) (fun E => @Rel.agg L E _ _ (@RelL.cons L _ _ _ _ _ (@to_flat L _ rfl _) (@RelL.cons L _ _ _ _ _ (@to_flat L _ rfl _) (@RelL.nil L _)))) fun w' _ => period_no f _ bad w'
      · refine ac (@pg L _ _ _ _ _ _ (@rl_f L _ _ _ rfl (@rl_nil L)) (@to_flat L _ rfl) fun w' _ => same_w (valid_no 0 w' (.inl (by omega)))) ?_
        intro p hp
        obtain ⟨j, hj, rfl⟩ := List.mem_map.1 hp
        have := Cal.no_in hf (hall j (List.mem_range.1 hj))
        exact @pg L _ _ _ _ _ _ (@rl_l L _ _ _ _ (hF j) (@rl_nil L)) (@to_flat L _ rfl) fun w' _ => same_w (valid_yes _ w' this.1 this.2)
      · intro p hp
        obtain ⟨j, hj, rfl⟩ := List.mem_map.1 hp
        exact @pg L _ _ _ _ _ _ (@rl_l L _ _ _ _ h12 (@rl_l L _ _ _ _ (hF j) (@rl_l L _ _ _ _ h13 (@rl_nil L)))) (fun E => @Rel.ltr L E _ _ (hN j) rfl) fun w' k => later_any f hf _ (hall j (List.mem_range.1 hj)) q hq w' (hT.t.keep k)
end Go.Proofs.YtkcolbeemmnolaaGreatDoor
