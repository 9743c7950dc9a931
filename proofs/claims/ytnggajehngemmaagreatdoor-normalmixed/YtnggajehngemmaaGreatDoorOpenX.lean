/-
  What Make makes may be a rule: its lists rise, and lie within their ranges.
-/
import Derived.Test.YtnggajehngemmaaGreatDoorMake
import Derived.Test.YtnggajehngemmaaGreatDoorR6
namespace Go.Proofs.YtnggajehngemmaaGreatDoor
open Go.RowKit Go.Sort Go.Shelf Go.Lib
/-- a list that chapter 2 lets be, but for its length -/
structure Lst {α : Type} (p : α → Bool) (c : α → α → Int) (l : List α) : Prop where
  i : ∀ x ∈ l, p x = true
  u : l.Pairwise fun x y => c x y < 0
theorem Lst.nil {α : Type} (p : α → Bool) (c : α → α → Int) : Lst p c [] := ⟨fun x hx => (by cases hx), List.Pairwise.nil⟩
theorem Lst.drop {α : Type} {p : α → Bool} {c : α → α → Int} {l : List α} (h : Lst p c l) (n : Nat) : Lst p c (l.drop n) := ⟨fun x hx => h.i x (List.mem_of_mem_drop hx), h.u.drop⟩
theorem Lst.take {α : Type} {p : α → Bool} {c : α → α → Int} {l : List α} (h : Lst p c l) (n : Nat) : Lst p c (l.take n) := ⟨fun x hx => h.i x (List.mem_of_mem_take hx), h.u.take⟩
theorem Lst.step {α : Type} {p : α → Bool} {c : α → α → Int} {l : List α} (h : Lst p c l) (k : Nat) : Rul.step p c l k = 0 := by
  by_cases hk : k < l.length
  · have hp := h.i l[k] (List.getElem_mem hk)
    cases k with
    | zero => rw [Rul.step_first hk hp]; exact h.step 1
    | succ k => rw [Rul.step_next hk hp (by omega) (List.pairwise_iff_getElem.1 h.u k (k + 1) (by omega) hk (by omega))]; exact h.step (k + 1 + 1)
  · exact Rul.step_end hk
termination_by l.length - k
theorem Lst.chk {α : Type} {p : α → Bool} {c : α → α → Int} {l : List α} (h : Lst p c l) (hl : l.length ≤ 64) : Rul.chkL p c l = 0 := by
  rw [Rul.chkL_short hl]; exact h.step 0
namespace Mk
theorem put_ok {m : Int} {out : List Int} {k : Int} (h : out.Nodup ∧ ∀ x ∈ out, x ≠ 0 ∧ -m ≤ x ∧ x ≤ m) (hk : -m ≤ k ∧ k ≤ m) : (put out k).Nodup ∧ ∀ x ∈ put out k, x ≠ 0 ∧ -m ≤ x ∧ x ≤ m := by
  unfold put
  split
  · rename_i e
    simp only [Bool.and_eq_true, bne_iff_ne, ne_eq, Bool.not_eq_true', List.contains_eq_mem, decide_eq_false_iff_not] at e
    refine ⟨?_, fun x hx => ?_⟩
    · rw [List.nodup_append]
      refine ⟨h.1, by simp, fun a ha b hb => ?_⟩
      simp only [List.mem_singleton] at hb
      subst hb
      exact fun e' => e.2 (e' ▸ ha)
    · rcases List.mem_append.1 hx with hx | hx
      · exact h.2 x hx
      · simp only [List.mem_singleton] at hx
        subst hx
        exact ⟨e.1, hk⟩
  · exact h
theorem fold_ok {m : Int} (hm : 0 ≤ m) : ∀ (l out : List Int), (out.Nodup ∧ ∀ x ∈ out, x ≠ 0 ∧ -m ≤ x ∧ x ≤ m) → ((l.foldl (fun out n => put out (n.tmod (m + 1))) out).Nodup ∧ ∀ x ∈ l.foldl (fun out n => put out (n.tmod (m + 1))) out, x ≠ 0 ∧ -m ≤ x ∧ x ≤ m)
  | [], _, h => h
  | n :: l, out, h => fold_ok hm l (put out (n.tmod (m + 1))) (put_ok h (by have := tmod_bd n (m := m + 1) (by omega); omega))
theorem sort_up {l : List Int} (h : l.Nodup) : (l.mergeSort fun x y => decide (x ≤ y)).Pairwise fun x y => x < y := by
  have p1 := List.pairwise_mergeSort (le := fun x y : Int => decide (x ≤ y)) (fun a b c h1 h2 => by simp only [decide_eq_true_eq] at *; omega) (fun a b => by simp only [Bool.or_eq_true, decide_eq_true_eq]; omega) l
  have p2 : (l.mergeSort fun x y => decide (x ≤ y)).Nodup := (List.mergeSort_perm l _).symm.nodup h
  refine (List.Pairwise.and p1 p2).imp ?_
  intro a b hab
  have h1 := hab.1
  have h2 := hab.2
  simp only [decide_eq_true_eq] at h1
  omega
theorem few_up {m : Int} (hm : 0 ≤ m) (l : List Int) : (few m l).Pairwise (fun x y => x < y) ∧ ∀ x ∈ few m l, x ≠ 0 ∧ -m ≤ x ∧ x ≤ m := by
  have h := fold_ok hm l [] ⟨List.nodup_nil, fun x hx => by cases hx⟩
  refine ⟨sort_up h.1, fun x hx => h.2 x ?_⟩
  exact (List.mergeSort_perm _ _).mem_iff.1 hx
theorem few_D (l : List Int) : Lst Rul.inD Rul.cmpI (few 31 l) := by
  obtain ⟨h1, h2⟩ := few_up (m := 31) (by omega) l
  exact ⟨fun x hx => by have := h2 x hx; simp [Rul.inD, Rul.btw]; omega, h1.imp fun h => Rul.cmpI_neg.2 h⟩
theorem few_P (l : List Int) : Lst Rul.inP Rul.cmpI (few 366 l) := by
  obtain ⟨h1, h2⟩ := few_up (m := 366) (by omega) l
  exact ⟨fun x hx => by have := h2 x hx; simp [Rul.inP, Rul.btw]; omega, h1.imp fun h => Rul.cmpI_neg.2 h⟩
theorem compact_up (d : Array Int) (hd : d.toList.Pairwise fun x y => x ≤ y) : ∀ m, m ≤ d.size → (Lib.compactUpTo d m).Pairwise (fun x y => x < y) ∧ ∀ x ∈ Lib.compactUpTo d m, ∃ j, j < m ∧ ∃ h : j < d.size, x = d[j]
  | 0, _ => by
    have : Lib.compactUpTo d 0 = [] := by simp [Lib.compactUpTo]
    rw [this]
    exact ⟨List.Pairwise.nil, fun x hx => by cases hx⟩
  | m + 1, hm => by
    obtain ⟨h1, h2⟩ := compact_up d hd m (by omega)
    rw [Lib.compactUpTo_succ]
    have em : d[m]! = d[m]'(by omega) := getElem!_pos d m (by omega)
    cases hk : Lib.keeps d m
    · simp only [Bool.false_eq_true, if_false, List.append_nil]
      exact ⟨h1, fun x hx => by obtain ⟨j, hj, q⟩ := h2 x hx; exact ⟨j, by omega, q⟩⟩
    · simp only [if_true]
      refine ⟨?_, fun x hx => ?_⟩
      · rw [List.pairwise_append]
        refine ⟨h1, List.pairwise_singleton _ _, fun a ha b hb => ?_⟩
        simp only [List.mem_singleton] at hb
        subst hb
        obtain ⟨j, hj, hjs, rfl⟩ := h2 a ha
        rw [em]
        have hle : ∀ i k (hi : i < d.size) (hk : k < d.size), i < k → d[i] ≤ d[k] := fun i k hi hk hik => by
          have := List.pairwise_iff_getElem.1 hd i k (by simpa using hi) (by simpa using hk) hik
          simpa using this
        have e1 : d[m - 1]! = d[m - 1]'(by omega) := getElem!_pos d (m - 1) (by omega)
        have hne : d[m]'(by omega) ≠ d[m - 1]'(by omega) := by
          intro e
          have := Lib.keeps_neg (d := d) (m := m) (by omega) (by rw [em, e1, e])
          rw [this] at hk
          cases hk
        have a1 := hle (m - 1) m (by omega) (by omega) (by omega)
        have a2 : d[j] ≤ d[m - 1]'(by omega) := by
          by_cases q : j = m - 1
          · subst q; exact Int.le_refl _
          · exact hle j (m - 1) hjs (by omega) (by omega)
        omega
      · rcases List.mem_append.1 hx with hx | hx
        · obtain ⟨j, hj, q⟩ := h2 x hx; exact ⟨j, by omega, q⟩
        · simp only [List.mem_singleton] at hx
          exact ⟨m, by omega, by omega, by rw [hx, em]⟩
theorem mon_M (l : List Int) (h : ∀ x ∈ l, 0 ≤ x) : Lst Rul.inM Rul.cmpI (mon l) := by
  have p1 := List.pairwise_mergeSort (le := fun x y : Int => decide (x ≤ y)) (fun a b c h1 h2 => by simp only [decide_eq_true_eq] at *; omega) (fun a b => by simp only [Bool.or_eq_true, decide_eq_true_eq]; omega) (monOut l)
  obtain ⟨h1, h2⟩ := compact_up ((monOut l).mergeSort fun x y => decide (x ≤ y)).toArray (p1.imp fun h => by simpa using h) _ (Nat.le_refl _)
  rw [show Lib.compactUpTo ((monOut l).mergeSort fun x y => decide (x ≤ y)).toArray ((monOut l).mergeSort fun x y => decide (x ≤ y)).toArray.size = mon l by unfold mon Lib.compact; simp] at h1 h2
  refine ⟨fun x hx => ?_, h1.imp fun h => Rul.cmpI_neg.2 h⟩
  obtain ⟨j, -, hj, rfl⟩ := h2 x hx
  have hm : ((monOut l).mergeSort fun x y => decide (x ≤ y)).toArray[j] ∈ monOut l := by
    have := List.getElem_mem (l := (monOut l).mergeSort fun x y => decide (x ≤ y)) (n := j) (by simpa using hj)
    simpa using (List.mergeSort_perm _ _).mem_iff.1 this
  generalize ((monOut l).mergeSort fun x y => decide (x ≤ y)).toArray[j] = y at hm
  obtain ⟨m, hml, rfl⟩ := List.mem_map.1 (show y ∈ l.map fun m => 1 + m.tmod 12 from hm)
  have e2 : m.tmod 12 = m % 12 := Int.tmod_eq_emod_of_nonneg (h m hml)
  rw [e2]
  simp [Rul.inM, Rul.btw]
  omega
theorem wput_ok {m : Int} {out : List Wk} {x : Wk} (h : out.Nodup ∧ ∀ y ∈ out, -m ≤ y.1.1 ∧ y.1.1 ≤ m) (hx : -m ≤ x.1.1 ∧ x.1.1 ≤ m) : (wput out x).Nodup ∧ ∀ y ∈ wput out x, -m ≤ y.1.1 ∧ y.1.1 ≤ m := by
  unfold wput
  split
  · exact h
  · rename_i e
    have hn : x ∉ out := fun hm => e (by rw [List.contains_eq_mem]; exact decide_eq_true (List.mem_map.2 ⟨x, hm, rfl⟩))
    refine ⟨?_, fun y hy => ?_⟩
    · rw [List.nodup_append]
      refine ⟨h.1, by simp, fun a ha b hb => ?_⟩
      simp only [List.mem_singleton] at hb
      subst hb
      exact fun e' => hn (e' ▸ ha)
    · rcases List.mem_append.1 hy with hy | hy
      · exact h.2 y hy
      · simp only [List.mem_singleton] at hy
        subst hy
        exact hx
theorem wfold_ok {m : Int} (hm : 0 ≤ m) (h53 : m ≤ 53) : ∀ (l : List (Int × Int)) (out : List Wk), (∀ p ∈ l, 0 ≤ p.2) → (out.Nodup ∧ ∀ y ∈ out, -m ≤ y.1.1 ∧ y.1.1 ≤ m) →
    ((l.foldl (fun out p => wput out (mkW m p)) out).Nodup ∧ ∀ y ∈ l.foldl (fun out p => wput out (mkW m p)) out, -m ≤ y.1.1 ∧ y.1.1 ≤ m)
  | [], _, _, h => h
  | p :: l, out, hp, h => wfold_ok hm h53 l (wput out (mkW m p)) (fun q hq => hp q (List.mem_cons_of_mem _ hq)) (wput_ok h (by
      rw [mkW_val hm h53 (hp p List.mem_cons_self)]
      have := tmod_bd p.1 (m := m + 1) (by omega)
      show -m ≤ p.1.tmod (m + 1) ∧ p.1.tmod (m + 1) ≤ m
      omega))
theorem weeks_W {F : Int} (l : List (Int × Int)) (h : ∀ p ∈ l, 0 ≤ p.2) : Lst (Rul.inW (F.tmod 4)) Rul.cmpN ((W F l).map (·.1)) := by
  have hb := most_bd F
  have hf := wfold_ok hb.1 hb.2 l [] h ⟨List.nodup_nil, fun x hx => by cases hx⟩
  have p1 := List.pairwise_mergeSort (le := fun x y : Wk => !ltOf cfW y x) (fun a b c h1 h2 => by
    simp only [Bool.not_eq_true'] at *
    exact swoW.ntrans c b a h2 h1) (fun a b => by
    cases h1 : ltOf cfW b a
    · rfl
    · cases h2 : ltOf cfW a b
      · rfl
      · have h3 := swoW.trans a b a h2 h1
        rw [swoW.irrefl] at h3
        cases h3) (weekOut (most F) l)
  have p2 : ((weekOut (most F) l).mergeSort fun x y => !ltOf cfW y x).Nodup := (List.mergeSort_perm _ _).symm.nodup hf.1
  refine ⟨fun x hx => ?_, ?_⟩
  · obtain ⟨y, hy, rfl⟩ := List.mem_map.1 hx
    have hy' : y ∈ weekOut (most F) l := (List.mergeSort_perm _ _).mem_iff.1 hy
    have h1 := hf.2 y hy'
    have h2 := y.2
    have em : Rul.most (F.tmod 4) = most F := rfl
    simp [Rul.inW, Rul.btw, em]
    omega
  · rw [List.pairwise_map]
    refine (List.Pairwise.and p1 p2).imp ?_
    intro a b hab
    obtain ⟨h1, h2⟩ := hab
    simp only [Bool.not_eq_true'] at h1
    rw [Rul.cmpN_neg]
    cases h3 : ltOf cfW a b
    · exact absurd (totW a b h3 h1) h2
    · rw [ltW] at h3
      simpa using h3
end Mk
/-- of an argument with few elements Make makes a rule that may be -/
theorem make_ok {w : World} {F I E C U : Int} {AM AD AW AP : Option Addr} {lm ld : List Int} {lw : List (Int × Int)} {lp : List Int} (hX : XIn w F I E C U AM AD AW AP lm ld lw lp) (h1 : lm.length ≤ 64) (h2 : ld.length ≤ 64) (h3 : lw.length ≤ 64) (h4 : lp.length ≤ 64) :
    Lst Rul.inM Rul.cmpI (Mk.mon lm) ∧ Lst Rul.inD Rul.cmpI (Mk.D F ld) ∧ Lst (Rul.inW (F.tmod 4)) Rul.cmpN ((Mk.W F lw).map (·.1)) ∧ Lst Rul.inP Rul.cmpI (Mk.P F lm ld lw lp) ∧
    (Mk.mon lm).length ≤ 64 ∧ (Mk.D F ld).length ≤ 64 ∧ ((Mk.W F lw).map (·.1)).length ≤ 64 ∧ (Mk.P F lm ld lw lp).length ≤ 64 ∧
    Rul.noFreq (F.tmod 4) = false ∧ (F.tmod 4 = 1 → Mk.D F ld = []) ∧ (Mk.P F lm ld lw lp ≠ [] → 0 < (Mk.mon lm).length + (Mk.D F ld).length + ((Mk.W F lw).map (·.1)).length) ∧
    Rul.badNum (Mk.iv I) (Mk.cnt E C) (Mk.unt E U) = false ∧ (Mk.cnt E C != 0 && Mk.unt E U != 0) = false ∧ (1 ≤ Mk.iv I ∧ Mk.iv I ≤ 999) := by
  have eF : F.tmod 4 = F % 4 := Int.tmod_eq_emod_of_nonneg hX.bF.1
  have eI6 : I.tmod 6 = I % 6 := Int.tmod_eq_emod_of_nonneg hX.bI.1
  have eI5 : I.tmod 5 = I % 5 := Int.tmod_eq_emod_of_nonneg hX.bI.1
  have eC : C.tmod 9999 = C % 9999 := Int.tmod_eq_emod_of_nonneg hX.bC.1
  have eU : U.tmod 3652059 = U % 3652059 := Int.tmod_eq_emod_of_nonneg hX.bU.1
  have hiv : 1 ≤ Mk.iv I ∧ Mk.iv I ≤ 999 := by unfold Mk.iv; split <;> omega
  have hc : 0 ≤ Mk.cnt E C ∧ Mk.cnt E C ≤ 9999 ∧ (Mk.cnt E C = 0 ∨ E.tmod 4 = 0) := by unfold Mk.cnt; split <;> omega
  have hu : 0 ≤ Mk.unt E U ∧ Mk.unt E U ≤ 3652059 ∧ (Mk.unt E U = 0 ∨ E.tmod 4 = 1) := by unfold Mk.unt; split <;> omega
  refine ⟨Mk.mon_M lm (fun x hx => (hX.bm x hx).1), ?_, Mk.weeks_W lw (fun x hx => (hX.bk x hx).2.1), ?_, Nat.le_trans (Mk.mon_len lm) h1, Nat.le_trans (Mk.D_len F ld) h2, Nat.le_trans (Mk.W_len F lw) h3, ?_, ?_, ?_, ?_, ?_, ?_, hiv⟩
  · unfold Mk.D; split
    · exact Mk.few_D ld
    · exact Lst.nil _ _
  · unfold Mk.P; split
    · exact Mk.few_P lp
    · exact Lst.nil _ _
  · unfold Mk.P; split
    · exact Nat.le_trans (Mk.few_len _ _) h4
    · simp
  · simp [Rul.noFreq]; omega
  · intro h; unfold Mk.D; rw [if_neg (by simp [h])]
  · intro h
    apply Classical.byContradiction
    intro h'
    apply h
    unfold Mk.P
    rw [if_neg (by simpa using h')]
  · have e : ∀ u : Int, 0 ≤ u → u ≤ 3652059 → (u != 0 && !(Rul.btw u 1 3652059)) = false := fun u a b => by
      by_cases hz : u = 0
      · simp [hz]
      · simp [Rul.btw, hz]; omega
    unfold Rul.badNum
    rw [Rul.btw_yes hiv.1 hiv.2, Rul.btw_yes hc.1 hc.2.1, e _ hu.1 hu.2.1]
    rfl
  · by_cases z : Mk.cnt E C = 0
    · simp [z]
    · have : Mk.unt E U = 0 := by omega
      simp [this]
end Go.Proofs.YtnggajehngemmaaGreatDoor
/-
  What the laws over made rules share: the argument, Light, Lists, calls' contracts in one shape.
-/
namespace Go.Proofs.YtnggajehngemmaaGreatDoor
open Go.RowKit
/-- the laws' argument x, whatever its lists' lengths -/
structure XIn0 (w : World) (F I E C U : Int) (AM AD AW AP : Option Addr) (lm ld : List Int) (lw : List (Int × Int)) (lp : List Int) : Prop where
  bF : 0 ≤ F ∧ F ≤ 255
  bI : 0 ≤ I ∧ I ≤ 255
  bE : 0 ≤ E ∧ E ≤ 255
  bC : 0 ≤ C ∧ C ≤ 65535
  bU : 0 ≤ U ∧ U ≤ 4294967295
  m : NumsIn .u8 w AM lm
  d : NumsIn .i8 w AD ld
  k : WksIn w AW lw
  p : NumsIn .i16 w AP lp
  bm : ∀ x ∈ lm, 0 ≤ x ∧ x ≤ 255
  bd : ∀ x ∈ ld, -128 ≤ x ∧ x ≤ 127
  bk : ∀ x ∈ lw, (-128 ≤ x.1 ∧ x.1 ≤ 127) ∧ (0 ≤ x.2 ∧ x.2 ≤ 255)
  bp : ∀ x ∈ lp, -32768 ≤ x ∧ x ≤ 32767
  lm1 : lm.length ≤ maxLen
  ld1 : ld.length ≤ maxLen
  lw1 : lw.length ≤ maxLen
  lp1 : lp.length ≤ maxLen
theorem XIn0.below {w w' : World} {F I E C U : Int} {AM AD AW AP : Option Addr} {lm ld : List Int} {lw : List (Int × Int)} {lp : List Int} (h : XIn0 w F I E C U AM AD AW AP lm ld lw lp) (b : Below w.heap.size w w') : XIn0 w' F I E C U AM AD AW AP lm ld lw lp :=
  ⟨h.bF, h.bI, h.bE, h.bC, h.bU, h.m.below b, h.d.below b, h.k.below b, h.p.below b, h.bm, h.bd, h.bk, h.bp, h.lm1, h.ld1, h.lw1, h.lp1⟩
def light (lm ld : List Int) (lw : List (Int × Int)) (lp : List Int) : Bool := decide (lm.length ≤ 20 ∧ ld.length ≤ 20 ∧ lw.length ≤ 20 ∧ lp.length ≤ 20)
theorem XIn0.full {w : World} {F I E C U : Int} {AM AD AW AP : Option Addr} {lm ld : List Int} {lw : List (Int × Int)} {lp : List Int} (h : XIn0 w F I E C U AM AD AW AP lm ld lw lp) (l : light lm ld lw lp = true) : XIn w F I E C U AM AD AW AP lm ld lw lp := by
  have l' : lm.length ≤ 20 ∧ ld.length ≤ 20 ∧ lw.length ≤ 20 ∧ lp.length ≤ 20 := by simpa [light] using l
  exact ⟨h.bF, h.bI, h.bE, h.bC, h.bU, h.m, h.d, h.k, h.p, h.bm, h.bd, h.bk, h.bp, by omega, by omega, by omega, by omega⟩
set_option maxHeartbeats 1000000 in
theorem light_any (x0 x1 x2 x3 x4 : Value) (AM AD AW AP : Option Addr) (cM cD cW cP : Nat) (lm ld : List Int) (lw : List (Int × Int)) (lp : List Int) (w : World) (h1 : lm.length ≤ maxLen) (h2 : ld.length ≤ maxLen) (h3 : lw.length ≤ maxLen) (h4 : lp.length ≤ maxLen) :
    Calls Tryz.prog 8 #[.agg #[x0, x1, x2, x3, x4, .slice AM lm.length cM, .slice AD ld.length cD, .slice AW lw.length cW, .slice AP lp.length cP]] w fun e w' => ∃ v, e = .returned v ∧ v = .bool (light lm ld lw lp) ∧ Below w.heap.size w w' := by
  have hB : ∀ o, Below w.heap.size w (w.alloc o) := fun o => (Below.refl _ _).alloc (Nat.le_refl _) _
  unfold maxLen at h1 h2 h3 h4
  by_cases a1 : lm.length ≤ 20
  · by_cases a2 : ld.length ≤ 20
    · by_cases a3 : lw.length ≤ 20
      · by_cases a4 : lp.length ≤ 20
        · have e := Lib.hid (show light lm ld lw lp = true by simp [light, a1, a2, a3, a4])
          go_enter Tryz.func8, Tryz.ntmps8
          go_wp2
          go_ret
          exact ⟨_, rfl, by rw [e.out]; first | rfl | (simp; omega), hB _⟩
        · have e := Lib.hid (show light lm ld lw lp = false by simp [light]; omega)
          go_enter Tryz.func8, Tryz.ntmps8
          go_wp2
          go_ret
          exact ⟨_, rfl, by rw [e.out]; first | rfl | (simp; omega), hB _⟩
      · have e := Lib.hid (show light lm ld lw lp = false by simp [light]; omega)
        go_enter Tryz.func8, Tryz.ntmps8
        go_wp2
        go_ret
        exact ⟨_, rfl, by rw [e.out]; first | rfl | (simp; omega), hB _⟩
    · have e := Lib.hid (show light lm ld lw lp = false by simp [light]; omega)
      go_enter Tryz.func8, Tryz.ntmps8
      go_wp2
      go_ret
      exact ⟨_, rfl, by rw [e.out]; first | rfl | (simp; omega), hB _⟩
  · have e := Lib.hid (show light lm ld lw lp = false by simp [light]; omega)
    go_enter Tryz.func8, Tryz.ntmps8
    go_wp2
    go_ret
    exact ⟨_, rfl, by rw [e.out]; first | rfl | (simp; omega), hB _⟩
theorem k_load9 {w : World} {ρ : Operand → Value} {o : Oper} {x : Operand} {b : Nat} {x0 x1 x2 x3 x4 x5 x6 x7 x8 : Value} (ho : o.op = .load 29 x) (hx : ρ x = .pointer (some ⟨b, 0, none⟩)) (h : Blk w b 29 #[x0, x1, x2, x3, x4, x5, x6, x7, x8]) :
    (execOp ρ o).run Tryz.prog w = .ok (.value (.agg #[x0, x1, x2, x3, x4, x5, x6, x7, x8])) w := by
  have c0 := h.cell 0; have c1 := h.cell 1; have c2 := h.cell 2; have c3 := h.cell 3; have c4 := h.cell 4; have c5 := h.cell 5; have c6 := h.cell 6; have c7 := h.cell 7; have c8 := h.cell 8
  simp only [execOp, ho, hx]
  go_simp
theorem check_any' (f iv c u : Int) (AM AD AW AP : Option Addr) (cM cD cW cP : Nat) (M D : List Int) (W : List (Int × Int)) (P : List Int) (w : World) (hL : ListsIn w AM AD AW AP M D W P) :
    Calls Tryz.prog 16 #[.agg #[.int .i64 f, .int .i64 iv, .int .i64 c, .int .i64 u, .slice AM M.length cM, .slice AD D.length cD, .slice AW W.length cW, .slice AP P.length cP]] w fun e w' => ∃ v, e = .returned v ∧ v = .int .i64 (Rul.check f iv c u M D W P) ∧ Below w.heap.size w w' :=
  (check_any f iv c u AM AD AW AP cM cD cW cP M D W P w hL).mono fun _ _ h => ⟨_, h.1, rfl, h.2⟩
/-- the made lists, as Check reads them -/
theorem Four.lists {w : World} {n0 : Nat} {A1 A2 A3 A4 : Option Addr} {c1 c2 c3 c4 : Nat} {M D : List Int} {K : List (Int × Int)} {P : List Int} {tD tW tP : Nat} (h : Four w n0 A1 A2 A3 A4 c1 c2 c3 c4 M D K P tD tW tP) : ListsIn w A1 A2 A3 A4 M D K P := by
  obtain ⟨_, _, e1, l1, -, i1⟩ := h.oM.ints
  obtain ⟨rfl, -, -⟩ := Value.slice.inj e1
  obtain ⟨_, _, e2, l2, -, i2⟩ := h.oD.ints
  obtain ⟨rfl, -, -⟩ := Value.slice.inj e2
  obtain ⟨_, _, e3, l3, -, i3⟩ := h.oW.nths
  obtain ⟨rfl, -, -⟩ := Value.slice.inj e3
  obtain ⟨_, _, e4, l4, -, i4⟩ := h.oP.ints
  obtain ⟨rfl, -, -⟩ := Value.slice.inj e4
  exact ⟨i1, i2, i3, i4, l1, l2, l3, l4⟩
theorem Four.below {w w' : World} {n0 : Nat} {A1 A2 A3 A4 : Option Addr} {c1 c2 c3 c4 : Nat} {M D : List Int} {K : List (Int × Int)} {P : List Int} {tD tW tP : Nat} (h : Four w n0 A1 A2 A3 A4 c1 c2 c3 c4 M D K P tD tW tP) (l : Below w.heap.size w w') : Four w' n0 A1 A2 A3 A4 c1 c2 c3 c4 M D K P tD tW tP :=
  ⟨h.oM.below l, h.gM, h.oD.below l, h.gD, h.oW.below l, h.gW, h.oP.below l, h.hD, h.hW, h.hP⟩
theorem Four.exc {w w' : World} {n0 T b : Nat} {A1 A2 A3 A4 : Option Addr} {c1 c2 c3 c4 : Nat} {M D : List Int} {K : List (Int × Int)} {P : List Int} {tD tW tP : Nat} (h : Four w n0 A1 A2 A3 A4 c1 c2 c3 c4 M D K P tD tW tP) (e : Exc w.heap.size b w w') (hb : b < n0 ∨ T ≤ b)
    (m1 : ∀ g, (Value.slice A1 M.length c1).ownBlock = some g → g < T) (m2 : ∀ g, (Value.slice A2 D.length c2).ownBlock = some g → g < T) (m3 : ∀ g, (Value.slice A3 K.length c3).ownBlock = some g → g < T) (m4 : ∀ g, (Value.slice A4 P.length c4).ownBlock = some g → g < T) : Four w' n0 A1 A2 A3 A4 c1 c2 c3 c4 M D K P tD tW tP :=
  ⟨h.oM.exc e (fun g hg => ⟨(h.oM.lt g hg).2, by have := (h.oM.lt g hg).1; have := m1 g hg; omega⟩), h.gM, h.oD.exc e (fun g hg => ⟨(h.oD.lt g hg).2, by have := (h.oD.lt g hg).1; have := m2 g hg; have := h.hD; omega⟩), h.gD,
   h.oW.exc e (fun g hg => ⟨(h.oW.lt g hg).2, by have := (h.oW.lt g hg).1; have := m3 g hg; have := h.hD; have := h.hW; omega⟩), h.gW, h.oP.exc e (fun g hg => ⟨(h.oP.lt g hg).2, by have := (h.oP.lt g hg).1; have := m4 g hg; have := h.hD; have := h.hW; have := h.hP; omega⟩), h.hD, h.hW, h.hP⟩
theorem o_eqE {w : World} {ρ : Operand → Value} {o : Oper} {x y : Operand} {n m : Int} {q : Bool} (ho : o.op = .binOp .eql 42 x y 42) (hx : ρ x = .int .i64 n) (hy : ρ y = .int .i64 m) (hr : (n == m) = q) : (execOp ρ o).run Tryz.prog w = .ok (.value (.bool q)) w := by
  subst hr
  simp only [execOp, ho, hx, hy]
  go_simp
end Go.Proofs.YtnggajehngemmaaGreatDoor
namespace Go.Proofs.YtnggajehngemmaaGreatDoor
open Go.RowKit
theorem make_any' (F I E C U : Int) (AM AD AW AP : Option Addr) (cM cD cW cP : Nat) (lm ld : List Int) (lw : List (Int × Int)) (lp : List Int) (w0 : World) (hX : XIn w0 F I E C U AM AD AW AP lm ld lw lp) :
    Calls Tryz.prog 29 #[.agg #[.int .u8 F, .int .u8 I, .int .u8 E, .int .u16 C, .int .u32 U, .slice AM lm.length cM, .slice AD ld.length cD, .slice AW lw.length cW, .slice AP lp.length cP]] w0 fun e w' => ∃ v, e = .returned v ∧ ∃ A1 A2 A3 A4 c1 c2 c3 c4 tD tW tP, v = .agg #[.int .i64 (F.tmod 4), .int .i64 (Mk.iv I), .int .i64 (Mk.cnt E C), .int .i64 (Mk.unt E U), .slice A1 (Mk.mon lm).length c1, .slice A2 (Mk.D F ld).length c2, .slice A3 ((Mk.W F lw).map (·.1)).length c3, .slice A4 (Mk.P F lm ld lw lp).length c4] ∧ Four w' w0.heap.size A1 A2 A3 A4 c1 c2 c3 c4 (Mk.mon lm) (Mk.D F ld) ((Mk.W F lw).map (·.1)) (Mk.P F lm ld lw lp) tD tW tP ∧ Below w0.heap.size w0 w' :=
  (make_any F I E C U AM AD AW AP cM cD cW cP lm ld lw lp w0 hX).mono fun _ _ ⟨A1, A2, A3, A4, c1, c2, c3, c4, tD, tW, tP, h1, h2, h3⟩ => ⟨_, h1, A1, A2, A3, A4, c1, c2, c3, c4, tD, tW, tP, rfl, h2, h3⟩
end Go.Proofs.YtnggajehngemmaaGreatDoor
/-
  An argument that is a rule by small numbers, opened; one that is a weekday.
-/
namespace Go.Proofs.YtnggajehngemmaaGreatDoor
open Go.ChangeShapes Go.WideShapes Go.ChangeAt Go.RowKit Go.Deep
section
variable {H : Type} {enc : TypeId × Value → H}
theorem int_fieldX {W : World} {t : TypeId} {n : Nat} {c : Value} {y : DataW H × List MemPlace} {k : IntKind} (ht : Tryz.prog.underlying t = some (.int k)) (h : DataW.trod enc Tryz.prog W 0 (fun _ => true) true n t [c] = some y) :
    ∃ x : Int, c = .int k x ∧ (Lit.int k x).wf = true := by
  obtain ⟨x, e, -, hw⟩ := DataW.trod_int ht h
  exact ⟨x, (List.cons.inj e).1, hw⟩
set_option maxRecDepth 100000 in
theorem wks_of {W : World} {n : Nat} {v : Value} {y : DataW H × List MemPlace}
    (h : DataW.trod enc Tryz.prog W 0 (fun _ => true) true n 26 [v] = some y) :
    ∃ (A : Option Addr) (L : List (Int × Int)) (cap : Nat), v = .slice A L.length cap ∧ L.length ≤ maxLen ∧ (∀ x ∈ L, (Lit.int .i8 x.1).wf = true ∧ (Lit.int .u8 x.2).wf = true) ∧ WksIn W A L := by
  rcases open_slice Tryz.underlying26 h with ⟨h0, -⟩ | ⟨a, len, cap, m, n', D, Pl, h0, -, hl, hm, hz, -, hi⟩
  · obtain rfl : v = _ := (List.cons.inj h0).1
    exact ⟨none, [], 0, rfl, Nat.zero_le _, fun x hx => (by cases hx), fun i hi => absurd hi (Nat.not_lt_zero i)⟩
  · obtain rfl : v = _ := (List.cons.inj h0).1
    simp only [if_true] at hz
    have hc2 : Tryz.prog.cellsOf 59 = 2 := by kernel_rfl
    have each : ∀ i, i < len → ∃ x : Int × Int, (Lit.int .i8 x.1).wf = true ∧ (Lit.int .u8 x.2).wf = true ∧ W.cell? (a.add (i * 2)) = some (.int .i8 x.1) ∧ W.cell? ((a.add (i * 2)).add 1) = some (.int .u8 x.2) := by
      intro i hi'
      obtain ⟨cs', hc, htr⟩ := hi i (by omega)
      rw [hc2] at hc
      obtain ⟨-, hcl, hat⟩ := World.cells?_some hc
      obtain ⟨xs, n2, -, -, -, hxl, hg⟩ := DataW.trod_struct Tryz.underlying59 htr
      match cs', hcl with
      | [c0, c1], _ =>
        have g0 := hg 0 _ rfl
        have g1 := hg 1 _ rfl
        have hx0 : xs[0]? = some (xs[0]'(by rw [hxl]; decide)) := List.getElem?_eq_getElem _
        have hx1 : xs[1]? = some (xs[1]'(by rw [hxl]; decide)) := List.getElem?_eq_getElem _
        rw [hx0] at g0
        rw [hx1] at g1
        obtain ⟨n0, e0, -, w0⟩ := DataW.trod_int Tryz.underlying57 g0
        obtain ⟨m0, e1, -, w1⟩ := DataW.trod_int Tryz.underlying5 g1
        have k1 : Tryz.prog.cellsOf 57 = 1 := by kernel_rfl
        have k2 : Tryz.prog.cellsOf 5 = 1 := by kernel_rfl
        simp [k1] at e0
        simp [k2] at e1
        have z0 := hat 0 (by omega)
        have z1 := hat 1 (by omega)
        refine ⟨(n0, m0), w0, w1, ?_, ?_⟩
        · rw [addr_zero] at z0
          simpa [e0] using z0
        · simpa [e1] using z1
    obtain ⟨L, hL, hp⟩ := list_of len each
    refine ⟨some a, L, cap, by rw [hL], by omega, fun x hx => ?_, fun i hi' => ?_⟩
    · obtain ⟨i, hi', rfl⟩ := List.getElem_of_mem hx
      exact ⟨(hp i hi').1, (hp i hi').2.1⟩
    · obtain ⟨-, -, q1, q2⟩ := hp i hi'
      have hb := World.block_lt_of_cell? _ _ q1
      rw [block_add] at hb
      exact ⟨a, rfl, hb, q1, q2⟩
set_option maxRecDepth 100000 in
theorem x_of {W : World} {base : Nat} {v : Value} {d : DataW H} {p : List MemPlace} (hv : Value.okWide Tryz.prog W .any base 29 v) (h : DataW.Trod enc Tryz.prog W 0 (fun _ => true) true 29 v d p) :
    ∃ (F I E C U : Int) (AM AD AW AP : Option Addr) (cM cD cW cP : Nat) (lm ld : List Int) (lw : List (Int × Int)) (lp : List Int),
      v = .agg #[.int .u8 F, .int .u8 I, .int .u8 E, .int .u16 C, .int .u32 U, .slice AM lm.length cM, .slice AD ld.length cD, .slice AW lw.length cW, .slice AP lp.length cP] ∧ XIn0 W F I E C U AM AD AW AP lm ld lw lp := by
  obtain ⟨cs, n, rfl, hsz, hf⟩ := fields_of Tryz.underlying29 (by kernel_rfl) (by kernel_rfl) hv h
  obtain ⟨l⟩ := cs
  match l, hsz with
  | [c0, c1, c2, c3, c4, c5, c6, c7, c8], _ =>
    obtain ⟨_, y0, e0, t0⟩ := hf 0 _ rfl
    obtain rfl := Option.some.inj e0
    obtain ⟨_, y1, e1, t1⟩ := hf 1 _ rfl
    obtain rfl := Option.some.inj e1
    obtain ⟨_, y2, e2, t2⟩ := hf 2 _ rfl
    obtain rfl := Option.some.inj e2
    obtain ⟨_, y3, e3, t3⟩ := hf 3 _ rfl
    obtain rfl := Option.some.inj e3
    obtain ⟨_, y4, e4, t4⟩ := hf 4 _ rfl
    obtain rfl := Option.some.inj e4
    obtain ⟨_, y5, e5, t5⟩ := hf 5 _ rfl
    obtain rfl := Option.some.inj e5
    obtain ⟨_, y6, e6, t6⟩ := hf 6 _ rfl
    obtain rfl := Option.some.inj e6
    obtain ⟨_, y7, e7, t7⟩ := hf 7 _ rfl
    obtain rfl := Option.some.inj e7
    obtain ⟨_, y8, e8, t8⟩ := hf 8 _ rfl
    obtain rfl := Option.some.inj e8
    obtain ⟨F, rfl, b0⟩ := int_fieldX Tryz.underlying5 t0
    obtain ⟨I, rfl, b1⟩ := int_fieldX Tryz.underlying5 t1
    obtain ⟨E, rfl, b2⟩ := int_fieldX Tryz.underlying5 t2
    obtain ⟨C, rfl, b3⟩ := int_fieldX Tryz.underlying22 t3
    obtain ⟨U, rfl, b4⟩ := int_fieldX Tryz.underlying23 t4
    obtain ⟨AM, lm, cM, rfl, l5, b5, i5⟩ := nums_of Tryz.underlying24 Tryz.underlying5 (by kernel_rfl) t5
    obtain ⟨AD, ld, cD, rfl, l6, b6, i6⟩ := nums_of Tryz.underlying25 Tryz.underlying57 (by kernel_rfl) t6
    obtain ⟨AW, lw, cW, rfl, l7, b7, i7⟩ := wks_of t7
    obtain ⟨AP, lp, cP, rfl, l8, b8, i8⟩ := nums_of Tryz.underlying27 Tryz.underlying80 (by kernel_rfl) t8
    exact ⟨F, I, E, C, U, AM, AD, AW, AP, cM, cD, cW, cP, lm, ld, lw, lp, rfl, ⟨bounds_u8 b0, bounds_u8 b1, bounds_u8 b2, bounds_u16 b3, bounds_u32 b4, i5, i6, i7, i8, fun x hx => bounds_u8 (b5 x hx), fun x hx => bounds_i8 (b6 x hx), fun x hx => ⟨bounds_i8 (b7 x hx).1, bounds_u8 (b7 x hx).2⟩, fun x hx => bounds_i16 (b8 x hx), l5, l6, l7, l8⟩⟩
set_option maxRecDepth 100000 in
theorem nth_of {W : World} {base : Nat} {v : Value} {d : DataW H} {p : List MemPlace} (hv : Value.okWide Tryz.prog W .any base 51 v) (h : DataW.Trod enc Tryz.prog W 0 (fun _ => true) true 51 v d p) :
    ∃ x y : Int, v = .agg #[.int .i64 x, .int .i64 y] ∧ (Lit.int .i64 x).wf = true ∧ (Lit.int .i64 y).wf = true := by
  obtain ⟨cs, n, rfl, hsz, hf⟩ := fields_of Tryz.underlying51 (by kernel_rfl) (by kernel_rfl) hv h
  obtain ⟨l⟩ := cs
  match l, hsz with
  | [c0, c1], _ =>
    obtain ⟨_, y0, e0, t0⟩ := hf 0 _ rfl
    obtain rfl := Option.some.inj e0
    obtain ⟨_, y1, e1, t1⟩ := hf 1 _ rfl
    obtain rfl := Option.some.inj e1
    obtain ⟨x, rfl, b0⟩ := int_fieldX Tryz.underlying3 t0
    obtain ⟨y, rfl, b1⟩ := int_fieldX Tryz.underlying3 t1
    exact ⟨x, y, rfl, b0, b1⟩
end
end Go.Proofs.YtnggajehngemmaaGreatDoor
