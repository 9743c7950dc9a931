/-
  Contracts of rule's checkLists and Check: each returns chapter 2's answer, and writes new memory alone.
-/
import Derived.Test.YtkcolbeemmnolaaGreatDoorR5
import Derived.Deep.RegionHeld3
import Derived.Test.YtkcolbeemmnolaaGreatDoorR2
namespace Go.Proofs.YtkcolbeemmnolaaGreatDoor
open Go.RowKit

set_option maxHeartbeats 1000000 in
theorem checkLists_any (f iv c u : Int) (AM AD AW AP : Option Addr) (cM cD cW cP : Nat) (M D : List Int) (W : List (Int × Int)) (P : List Int) (w : World) (hL : ListsIn w AM AD AW AP M D W P) :
    Calls Tryz.prog 114 #[.agg #[.int .i64 f, .int .i64 iv, .int .i64 c, .int .i64 u, .slice AM M.length cM, .slice AD D.length cD, .slice AW W.length cW, .slice AP P.length cP]] w fun e w' => e = .returned (.int .i64 (Rul.lists f M D W P)) ∧ Below w.heap.size w w' := by
  have LM := hL.lm; have LD := hL.ld; have LK := hL.lk; have LP := hL.lp
  have hB : ∀ o, Below w.heap.size w (w.alloc o) := fun o => (Below.refl _ _).alloc (Nat.le_refl _) _
  cases h1 : (Rul.chkL Rul.inM Rul.cmpI M != 0)
  case true =>
    have E := Lib.hid (show Rul.lists f M D W P = Rul.chkL Rul.inM Rul.cmpI M by simp only [Rul.lists, h1, if_true])
    go_enter Tryz.func114, Tryz.ntmps114
    go_wp2_with fail
    refine (checkM_any _ _ _ _ (hL.m.below (hB _)) LM).mono ?_
    rintro e w' ⟨rfl, rfl⟩
    go_wp2
    go_ret
    exact ⟨ret_int E.out.symm, by go_grown⟩
  case false =>
  cases h2 : (Rul.chkL Rul.inD Rul.cmpI D != 0)
  case true =>
    have E := Lib.hid (show Rul.lists f M D W P = Rul.chkL Rul.inD Rul.cmpI D by simp only [Rul.lists, h1, h2, if_true]; rfl)
    go_enter Tryz.func114, Tryz.ntmps114
    go_wp2_with fail
    refine (checkM_any _ _ _ _ (hL.m.below (hB _)) LM).mono ?_
    rintro e w' ⟨rfl, rfl⟩
    go_wp2_with fail
    refine (checkD_any _ _ _ _ (hL.d.below (hB _)) LD).mono ?_
    rintro e w' ⟨rfl, rfl⟩
    go_wp2
    go_ret
    exact ⟨ret_int E.out.symm, by go_grown⟩
  case false =>
  have hB2 : ∀ o o', Below w.heap.size w ((w.alloc o).alloc o') := fun o o' => (hB o).alloc (by simp) _
  cases h3 : (Rul.chkL (Rul.inW f) Rul.cmpN W != 0)
  case true =>
    have E := Lib.hid (show Rul.lists f M D W P = Rul.chkL (Rul.inW f) Rul.cmpN W by simp only [Rul.lists, h1, h2, h3, if_true]; rfl)
    go_enter Tryz.func114, Tryz.ntmps114
    go_wp2_with fail
    refine (checkM_any _ _ _ _ (hL.m.below (hB _)) LM).mono ?_
    rintro e w' ⟨rfl, rfl⟩
    go_wp2_with fail
    refine (checkD_any _ _ _ _ (hL.d.below (hB _)) LD).mono ?_
    rintro e w' ⟨rfl, rfl⟩
    go_wp2_with fail
    refine (maxNth_any _ _).mono ?_
    rintro e w' ⟨rfl, rfl⟩
    go_wp2_with fail
    refine (checkW_any f _ _ _ _ _ (hL.k.below (hB2 _ _)) LK (by simp) (by simp)).mono ?_
    rintro e w3 ⟨rfl, b3⟩
    have B3 : Below w.heap.size w w3 := (hB2 _ _).trans (b3.mono (by simp; omega))
    go_wp2
    go_ret
    exact ⟨ret_int E.out.symm, B3⟩
  case false =>
    have E := Lib.hid (show Rul.lists f M D W P = Rul.chkL Rul.inP Rul.cmpI P by simp only [Rul.lists, h1, h2, h3]; rfl)
    go_enter Tryz.func114, Tryz.ntmps114
    go_wp2_with fail
    refine (checkM_any _ _ _ _ (hL.m.below (hB _)) LM).mono ?_
    rintro e w' ⟨rfl, rfl⟩
    go_wp2_with fail
    refine (checkD_any _ _ _ _ (hL.d.below (hB _)) LD).mono ?_
    rintro e w' ⟨rfl, rfl⟩
    go_wp2_with fail
    refine (maxNth_any _ _).mono ?_
    rintro e w' ⟨rfl, rfl⟩
    go_wp2_with fail
    refine (checkW_any f _ _ _ _ _ (hL.k.below (hB2 _ _)) LK (by simp) (by simp)).mono ?_
    rintro e w3 ⟨rfl, b3⟩
    have B3 : Below w.heap.size w w3 := (hB2 _ _).trans (b3.mono (by simp; omega))
    have c7 : w3.cell? ⟨w.heap.size, 7, none⟩ = some (.slice AP P.length cP) := (b3.cell (p := ⟨w.heap.size, 7, none⟩) (by simp; omega)).trans (by simp)
    clear b3
    go_wp2_with fail
    refine (checkP_any _ _ _ _ (hL.p.below B3) LP).mono ?_
    rintro e w' ⟨rfl, rfl⟩
    go_wp2
    go_ret
    exact ⟨ret_int E.out.symm, B3⟩

theorem odd_eq (f : Int) (M D : List Int) (W : List (Int × Int)) (P : List Int) : Rul.odd f M D W P = (f == 1 && decide (0 < D.length) || decide (0 < P.length) && !(some3 M D W)) := rfl

set_option maxHeartbeats 1000000 in
/-- rule.Check: chapter 2's answer -/
theorem check_any (f iv c u : Int) (AM AD AW AP : Option Addr) (cM cD cW cP : Nat) (M D : List Int) (W : List (Int × Int)) (P : List Int) (w : World) (hL : ListsIn w AM AD AW AP M D W P) :
    Calls Tryz.prog 83 #[.agg #[.int .i64 f, .int .i64 iv, .int .i64 c, .int .i64 u, .slice AM M.length cM, .slice AD D.length cD, .slice AW W.length cW, .slice AP P.length cP]] w fun e w' => e = .returned (.int .i64 (Rul.check f iv c u M D W P)) ∧ Below w.heap.size w w' := by
  have hB : ∀ o, Below w.heap.size w (w.alloc o) := fun o => (Below.refl _ _).alloc (Nat.le_refl _) _
  by_cases f0 : f < 0
  · have E := Lib.hid (show Rul.check f iv c u M D W P = 6 by simp [Rul.check, Rul.noFreq, f0])
    go_enter Tryz.func83, Tryz.ntmps83
    go_wp2
    go_ret
    exact ⟨ret_int E.out.symm, by go_grown⟩
  by_cases f4 : 4 ≤ f
  · have E := Lib.hid (show Rul.check f iv c u M D W P = 6 by simp [Rul.check, Rul.noFreq, f4])
    go_enter Tryz.func83, Tryz.ntmps83
    go_wp2
    go_ret
    exact ⟨ret_int E.out.symm, by go_grown⟩
  have hf : Rul.noFreq f = false := by simp [Rul.noFreq]; omega
  cases h1 : (Rul.nums iv c u != 0)
  case true =>
    have E := Lib.hid (show Rul.check f iv c u M D W P = Rul.nums iv c u by simp only [Rul.check, hf, h1, if_true]; rfl)
    clear hf
    go_enter Tryz.func83, Tryz.ntmps83
    go_wp2_with fail
    refine (checkNumbers_any _ _ _ _ _ _ _ _ _ _ _ _ _ _ _ _ _).mono ?_
    rintro e w1 ⟨rfl, b1⟩
    have B1 : Below w.heap.size w w1 := (hB _).trans (b1.mono (by simp))
    go_wp2
    go_ret
    exact ⟨ret_int E.out.symm, B1⟩
  case false =>
  cases h2 : (Rul.lists f M D W P != 0)
  case true =>
    have E := Lib.hid (show Rul.check f iv c u M D W P = Rul.lists f M D W P by simp only [Rul.check, hf, h1, h2, if_true]; rfl)
    clear hf
    go_enter Tryz.func83, Tryz.ntmps83
    go_wp2_with fail
    refine (checkNumbers_any _ _ _ _ _ _ _ _ _ _ _ _ _ _ _ _ _).mono ?_
    rintro e w1 ⟨rfl, b1⟩
    have B1 : Below w.heap.size w w1 := (hB _).trans (b1.mono (by simp))
    have cs : ∀ i, w1.cell? ⟨w.heap.size, i, none⟩ = (w.alloc (.cells #[.int .i64 f, .int .i64 iv, .int .i64 c, .int .i64 u, .slice AM M.length cM, .slice AD D.length cD, .slice AW W.length cW, .slice AP P.length cP] 36)).cell? ⟨w.heap.size, i, none⟩ := fun i => b1.cell (p := ⟨w.heap.size, i, none⟩) (by simp)
    have hL1 := hL.below B1
    clear b1
    go_wp2_with fail
    refine (checkLists_any _ _ _ _ _ _ _ _ _ _ _ _ _ _ _ _ _ hL1).mono ?_
    rintro e w2 ⟨rfl, b2⟩
    have B2 : Below w.heap.size w w2 := B1.trans (b2.mono B1.size)
    go_wp2
    go_ret
    exact ⟨ret_int E.out.symm, B2⟩
  case false =>
  have E : Hid (Rul.check f iv c u M D W P = if Rul.odd f M D W P then 6 else 0) := Lib.hid (by simp only [Rul.check, hf, h1, h2]; rfl)
  rw [odd_eq] at E
  clear hf
  have LM := hL.lm; have LD := hL.ld; have LK := hL.lk; have LP := hL.lp
  unfold maxLen at LM LD LK LP
  have go : ∀ (Z : Int), Hid (Rul.check f iv c u M D W P = Z) → Hid (Z = if (f == 1 && decide (0 < D.length) || decide (0 < P.length) && !(some3 M D W)) then 6 else 0) → True := fun _ _ _ => trivial
  clear go
  by_cases hD : f = 1 ∧ 0 < D.length
  · obtain ⟨rfl, hD⟩ := hD
    have E' := Lib.hid (show Rul.check 1 iv c u M D W P = 6 by rw [E.out]; simp [hD])
    clear E
    go_enter Tryz.func83, Tryz.ntmps83
    go_wp2_with fail
    refine (checkNumbers_any _ _ _ _ _ _ _ _ _ _ _ _ _ _ _ _ _).mono ?_
    rintro e w1 ⟨rfl, b1⟩
    have B1 : Below w.heap.size w w1 := (hB _).trans (b1.mono (by simp))
    have cs : ∀ i, w1.cell? ⟨w.heap.size, i, none⟩ = (w.alloc (.cells #[.int .i64 1, .int .i64 iv, .int .i64 c, .int .i64 u, .slice AM M.length cM, .slice AD D.length cD, .slice AW W.length cW, .slice AP P.length cP] 36)).cell? ⟨w.heap.size, i, none⟩ := fun i => b1.cell (p := ⟨w.heap.size, i, none⟩) (by simp)
    have hz : w.heap.size < w1.heap.size := by have := b1.size; simp at this; omega
    have hL1 := hL.below B1
    clear b1
    go_wp2_with fail
    refine (checkLists_any _ _ _ _ _ _ _ _ _ _ _ _ _ _ _ _ _ hL1).mono ?_
    rintro e w2 ⟨rfl, b2⟩
    have B2 : Below w.heap.size w w2 := B1.trans (b2.mono B1.size)
    have ds : ∀ i, w2.cell? ⟨w.heap.size, i, none⟩ = (w.alloc (.cells #[.int .i64 1, .int .i64 iv, .int .i64 c, .int .i64 u, .slice AM M.length cM, .slice AD D.length cD, .slice AW W.length cW, .slice AP P.length cP] 36)).cell? ⟨w.heap.size, i, none⟩ := fun i => (b2.cell (p := ⟨w.heap.size, i, none⟩) hz).trans (cs i)
    clear b2 cs
    go_wp2
    go_ret
    exact ⟨ret_int E'.out.symm, B2⟩
  have hQ : ((f == 1) = false) ∨ ((f == 1) = true ∧ ¬ 0 < D.length) := by
    by_cases h : f = 1
    · exact .inr ⟨by simpa using h, fun h' => hD ⟨h, h'⟩⟩
    · exact .inl (by simpa using h)
  by_cases hP : 0 < P.length
  · cases h3 : some3 M D W
    all_goals
      rcases hQ with hq | ⟨hq, hd0⟩
      all_goals
        have E' := Lib.hid (show Rul.check f iv c u M D W P = if (!(some3 M D W)) then 6 else 0 by
          rw [E.out]; simp [hq, hP]; try simp [hd0])
        rw [h3] at E'
        have H3 := Lib.hid h3
        clear E hD h3
        go_enter Tryz.func83, Tryz.ntmps83
        go_wp2_with fail
        refine (checkNumbers_any _ _ _ _ _ _ _ _ _ _ _ _ _ _ _ _ _).mono ?_
        rintro e w1 ⟨rfl, b1⟩
        have B1 : Below w.heap.size w w1 := (hB _).trans (b1.mono (by simp))
        have cs : ∀ i, w1.cell? ⟨w.heap.size, i, none⟩ = (w.alloc (.cells #[.int .i64 f, .int .i64 iv, .int .i64 c, .int .i64 u, .slice AM M.length cM, .slice AD D.length cD, .slice AW W.length cW, .slice AP P.length cP] 36)).cell? ⟨w.heap.size, i, none⟩ := fun i => b1.cell (p := ⟨w.heap.size, i, none⟩) (by simp)
        have hz : w.heap.size < w1.heap.size := by have := b1.size; simp at this; omega
        have hL1 := hL.below B1
        clear b1
        go_wp2_with fail
        refine (checkLists_any _ _ _ _ _ _ _ _ _ _ _ _ _ _ _ _ _ hL1).mono ?_
        rintro e w2 ⟨rfl, b2⟩
        have B2 : Below w.heap.size w w2 := B1.trans (b2.mono B1.size)
        have ds : ∀ i, w2.cell? ⟨w.heap.size, i, none⟩ = (w.alloc (.cells #[.int .i64 f, .int .i64 iv, .int .i64 c, .int .i64 u, .slice AM M.length cM, .slice AD D.length cD, .slice AW W.length cW, .slice AP P.length cP] 36)).cell? ⟨w.heap.size, i, none⟩ := fun i => (b2.cell (p := ⟨w.heap.size, i, none⟩) hz).trans (cs i)
        clear b2 cs
        go_wp2_with fail
        refine (lists_any _ _ _ _ _ _ _ _ _ _ _ _ _ _ _ _ _).mono ?_
        rintro e w3 ⟨rfl, b3⟩
        have B3 : Below w.heap.size w w3 := B2.trans (b3.mono B2.size)
        rw [H3.out]
        go_wp2
        go_ret
        exact ⟨ret_int E'.out.symm, B3⟩
  · rcases hQ with hq | ⟨hq, hd0⟩
    all_goals
      have E' := Lib.hid (show Rul.check f iv c u M D W P = 0 by
        rw [E.out]; simp [hq, hP]; try exact List.eq_nil_of_length_eq_zero (by omega))
      clear E hD
      go_enter Tryz.func83, Tryz.ntmps83
      go_wp2_with fail
      refine (checkNumbers_any _ _ _ _ _ _ _ _ _ _ _ _ _ _ _ _ _).mono ?_
      rintro e w1 ⟨rfl, b1⟩
      have B1 : Below w.heap.size w w1 := (hB _).trans (b1.mono (by simp))
      have cs : ∀ i, w1.cell? ⟨w.heap.size, i, none⟩ = (w.alloc (.cells #[.int .i64 f, .int .i64 iv, .int .i64 c, .int .i64 u, .slice AM M.length cM, .slice AD D.length cD, .slice AW W.length cW, .slice AP P.length cP] 36)).cell? ⟨w.heap.size, i, none⟩ := fun i => b1.cell (p := ⟨w.heap.size, i, none⟩) (by simp)
      have hz : w.heap.size < w1.heap.size := by have := b1.size; simp at this; omega
      have hL1 := hL.below B1
      clear b1
      go_wp2_with fail
      refine (checkLists_any _ _ _ _ _ _ _ _ _ _ _ _ _ _ _ _ _ hL1).mono ?_
      rintro e w2 ⟨rfl, b2⟩
      have B2 : Below w.heap.size w w2 := B1.trans (b2.mono B1.size)
      have ds : ∀ i, w2.cell? ⟨w.heap.size, i, none⟩ = (w.alloc (.cells #[.int .i64 f, .int .i64 iv, .int .i64 c, .int .i64 u, .slice AM M.length cM, .slice AD D.length cD, .slice AW W.length cW, .slice AP P.length cP] 36)).cell? ⟨w.heap.size, i, none⟩ := fun i => (b2.cell (p := ⟨w.heap.size, i, none⟩) hz).trans (cs i)
      clear b2 cs
      go_wp2
      go_ret
      exact ⟨ret_int E'.out.symm, B2⟩
end Go.Proofs.YtkcolbeemmnolaaGreatDoor
/-
  A region that draws its order, walked over a frame that is a letter: the laws of one step.
-/
namespace Go.Proofs.YtkcolbeemmnolaaGreatDoor
open Go.RowKit

/-- the operations of a region, by its number -/
def regOf (n : Nat) : Code → Option (Array Oper)
  | .region id ops _ => if id = n then some ops else none
  | .seq x y => match regOf n x with
    | some o => some o
    | none => regOf n y
  | .cond _ x y => match regOf n x with
    | some o => some o
    | none => regOf n y
  | .block _ c => regOf n c
  | .loop c => regOf n c
  | .scope c => regOf n c
  | _ => none

theorem put_get {a : Act} {d : Nat} {v : Value} (h : d < a.tmps.size) : (a.put (some d) v).tmps.getD d undef = v := by simp [Act.put, h]
theorem put_ne {a : Act} {d t : Nat} {v : Value} (h : d ≠ t) : (a.put (some d) v).tmps.getD t undef = a.tmps.getD t undef := by
  simp [Act.put, h]
theorem put_size {a : Act} {d : Nat} {v : Value} : (a.put (some d) v).tmps.size = a.tmps.size := by simp [Act.put]

section
variable {P : Program} {ops : Array Oper} {Q : Exit → Act → World → Prop} {S : World → Prop} {fuel : Nat} {listed : Array Bool} {a : Act} {w : World}
/-- at a panic Q does not look at the frame -/
def Blind (Q : Exit → Act → World → Prop) : Prop := ∀ c a b w, Q (.panic c) a w → Q (.panic c) b w
theorem step_take (i d : Nat) {v : Value} (hQ : Blind Q) (hd : (ops[i]?).map (·.dst) = some (some d)) (hs : Region.noSelect ops = true) (hf : Region.free .any ops listed i = true)
    (hr : (Region.ready .any ops listed).contains i = true) (hS : S w) (hy : ∀ o, ops[i]? = some o → YieldsIf P ops S o v a)
    (h : wpAnyH P .any ops Q S fuel (listed.setIfInBounds i true) (a.put (some d) v) w) : wpAnyH P .any ops Q S (fuel + 1) listed a w := by
  cases ho : ops[i]? with
  | none => rw [ho] at hd; cases hd
  | some o =>
    rw [ho] at hd
    have e : o.dst = some d := by simpa using hd
    exact wpAnyH_take ho hs hf hr (fun _ _ _ q => hQ _ _ _ _ q) (hy o ho) hS (by rw [e]; exact h)
theorem step_skip (i d : Nat) (hQ : Blind Q) (hd : (ops[i]?).map (·.dst) = some (some d)) (hs : Region.noSelect ops = true) (hf : Region.free .any ops listed i = true)
    (hr : (Region.ready .any ops listed).contains i = true) (hS : S w) (hy : ∀ o, ops[i]? = some o → Region.wanted o (yielded ops a.tmps) = false)
    (h : wpAnyH P .any ops Q S fuel (listed.setIfInBounds i true) (a.put (some d) undef) w) : wpAnyH P .any ops Q S (fuel + 1) listed a w :=
  step_take i d hQ hd hs hf hr hS (fun o ho => .inr ⟨hy o ho, rfl⟩) h
theorem step_do (i : Nat) (hr : Region.ready .any ops listed = [i])
    (h : ∀ o, ops[i]? = some o → ∀ K' : Act → World → Prop, Shut (∀ a w, S w → (S w → wpAnyH P .any ops Q S fuel (listed.setIfInBounds i true) a w) → K' a w) → if Region.wanted o (yielded ops a.tmps) = true then Oper.wp P o a w K' Q else K' (a.put o.dst undef) w) :
    wpAnyH P .any ops Q S (fuel + 1) listed a w := by
  have hi : i ∈ Region.ready .any ops listed := by rw [hr]; exact List.mem_singleton.2 rfl
  obtain ⟨_, o, ho, _⟩ := mem_ready.1 hi
  exact wpAnyH_ready hr (by simp) (AllReadyH.cons ho (h o ho) AllReadyH.nil)
end

/-- the first loop's body in a text -/
def loopC : Code → Option Code
  | .loop c => some c
  | .seq x y => match loopC x with
    | some o => some o
    | none => loopC y
  | .cond _ x y => match loopC x with
    | some o => some o
    | none => loopC y
  | .block _ c => loopC c
  | .scope c => loopC c
  | _ => none

/-- what a statement leaves of a frame: all but the slots lo to hi, and x -/
def Keep (lo hi x : Nat) (t u : Array Value) : Prop := u.size = t.size ∧ ∀ k, k ≠ x → (k < lo ∨ hi < k) → u.getD k undef = t.getD k undef
theorem Keep.refl (lo hi x : Nat) (t : Array Value) : Keep lo hi x t t := ⟨rfl, fun _ _ _ => rfl⟩
theorem set_ne {u : Array Value} {d k : Nat} {v : Value} (h : d ≠ k) : (u.setIfInBounds d v).getD k undef = u.getD k undef := by simp [h]
theorem set_get {u : Array Value} {d : Nat} {v : Value} (h : d < u.size) : (u.setIfInBounds d v).getD d undef = v := by simp [h]
theorem Keep.set {lo hi x : Nat} {t u : Array Value} (h : Keep lo hi x t u) (d : Nat) (v : Value) (hd : d = x ∨ lo ≤ d ∧ d ≤ hi) : Keep lo hi x t (u.setIfInBounds d v) :=
  ⟨by simpa using h.1, fun k h1 h2 => by rw [set_ne (by omega)]; exact h.2 k h1 h2⟩

/-- a statement, cut off: what holds behind it -/
theorem cut_at {P : Program} {s : Code} {K : Act → World → Prop} {Q : Exit → Act → World → Prop} {a : Act} {w : World} (R : Act → World → Prop)
    (first : s.wp P (Exit.then R Q) a w) (rest : ∀ a' w', R a' w' → K a' w') : s.wp P (Exit.then K Q) a w :=
  wp_mono first fun e a' w' h => by
    cases e with
    | normal => exact rest a' w' h
    | exit id => exact h
    | goto l => exact h
    | ret => exact h
    | panic c => exact h
    | outgrown => exact h
theorem blind_then {K : Act → World → Prop} {Q : Exit → Act → World → Prop} (h : Blind Q) : Blind (Exit.then K Q) := fun c a b w q => h c a b w q
theorem blind_block {n : Nat} {Q : Exit → Act → World → Prop} (h : Blind Q) : Blind (Exit.inBlock n Q) := fun c a b w q => h c a b w q
theorem getD_at {a : Act} {t : Nat} {v : Value} (h : a.tmps.getD t undef = v) : ∀ q : t < a.tmps.size, a.tmps[t]'q = v := fun q => by simpa [Array.getD, q] using h
end Go.Proofs.YtkcolbeemmnolaaGreatDoor
/-
  One operation's answer, for an operation known by its text.
-/
namespace Go.Proofs.YtkcolbeemmnolaaGreatDoor
open Go.RowKit
theorem ev_tmp {a : Act} {t : Nat} {v : Value} (h : a.tmps.getD t undef = v) : a.eval (.tmp t) = v := h
section
variable {P : Program} {w : World} {ρ : Operand → Value} {o : Oper}
theorem k_move {x : Operand} {v : Value} (ho : o.op = .move x) (hx : ρ x = v) : (execOp ρ o).run P w = .ok (.value v) w := by
  simp only [execOp, ho, hx]; rfl
theorem k_pick_yes {c x y : Operand} {v : Value} (ho : o.op = .pick c x y) (hc : ρ c = .bool true) (hx : ρ x = v) : (execOp ρ o).run P w = .ok (.value v) w := by
  simp only [execOp, ho, hc, hx]; rfl
theorem k_pick_no {c x y : Operand} {v : Value} (ho : o.op = .pick c x y) (hc : ρ c = .bool false) (hy : ρ y = v) : (execOp ρ o).run P w = .ok (.value v) w := by
  simp only [execOp, ho, hc, hy]; rfl
end
section
variable {w : World} {ρ : Operand → Value} {o : Oper} {x y : Operand} {b : Nat} {ad : Addr} {v : Value}
theorem k_field0 (ho : o.op = .fieldAddr 36 x 0) (hx : ρ x = .pointer (some ⟨b, 0, none⟩)) : (execOp ρ o).run Tryz.prog w = .ok (.value (.pointer (some ⟨b, 0, none⟩))) w := by
  simp only [execOp, ho, hx]
  go_simp
theorem k_field1 (ho : o.op = .fieldAddr 36 x 1) (hx : ρ x = .pointer (some ⟨b, 0, none⟩)) : (execOp ρ o).run Tryz.prog w = .ok (.value (.pointer (some ⟨b, 1, none⟩))) w := by
  simp only [execOp, ho, hx]
  go_simp
theorem k_field2 (ho : o.op = .fieldAddr 36 x 2) (hx : ρ x = .pointer (some ⟨b, 0, none⟩)) : (execOp ρ o).run Tryz.prog w = .ok (.value (.pointer (some ⟨b, 2, none⟩))) w := by
  simp only [execOp, ho, hx]
  go_simp
theorem k_field3 (ho : o.op = .fieldAddr 36 x 3) (hx : ρ x = .pointer (some ⟨b, 0, none⟩)) : (execOp ρ o).run Tryz.prog w = .ok (.value (.pointer (some ⟨b, 3, none⟩))) w := by
  simp only [execOp, ho, hx]
  go_simp
theorem k_field4 (ho : o.op = .fieldAddr 36 x 4) (hx : ρ x = .pointer (some ⟨b, 0, none⟩)) : (execOp ρ o).run Tryz.prog w = .ok (.value (.pointer (some ⟨b, 4, none⟩))) w := by
  simp only [execOp, ho, hx]
  go_simp
theorem k_field5 (ho : o.op = .fieldAddr 36 x 5) (hx : ρ x = .pointer (some ⟨b, 0, none⟩)) : (execOp ρ o).run Tryz.prog w = .ok (.value (.pointer (some ⟨b, 5, none⟩))) w := by
  simp only [execOp, ho, hx]
  go_simp
theorem k_field6 (ho : o.op = .fieldAddr 36 x 6) (hx : ρ x = .pointer (some ⟨b, 0, none⟩)) : (execOp ρ o).run Tryz.prog w = .ok (.value (.pointer (some ⟨b, 6, none⟩))) w := by
  simp only [execOp, ho, hx]
  go_simp
theorem k_field7 (ho : o.op = .fieldAddr 36 x 7) (hx : ρ x = .pointer (some ⟨b, 0, none⟩)) : (execOp ρ o).run Tryz.prog w = .ok (.value (.pointer (some ⟨b, 7, none⟩))) w := by
  simp only [execOp, ho, hx]
  go_simp
theorem k_loadI {n : Int} (ho : o.op = .load 3 x) (hx : ρ x = .pointer (some ad)) (hc : w.cell? ad = some (.int .i64 n)) : (execOp ρ o).run Tryz.prog w = .ok (.value (.int .i64 n)) w := by
  simp only [execOp, ho, hx]
  go_simp
theorem k_loadF {n : Int} (ho : o.op = .load 31 x) (hx : ρ x = .pointer (some ad)) (hc : w.cell? ad = some (.int .i64 n)) : (execOp ρ o).run Tryz.prog w = .ok (.value (.int .i64 n)) w := by
  simp only [execOp, ho, hx]
  go_simp
theorem k_loadU {n : Int} (ho : o.op = .load 32 x) (hx : ρ x = .pointer (some ad)) (hc : w.cell? ad = some (.int .i64 n)) : (execOp ρ o).run Tryz.prog w = .ok (.value (.int .i64 n)) w := by
  simp only [execOp, ho, hx]
  go_simp
theorem k_loadL {A : Option Addr} {n c : Nat} (ho : o.op = .load 33 x) (hx : ρ x = .pointer (some ad)) (hc : w.cell? ad = some (.slice A n c)) : (execOp ρ o).run Tryz.prog w = .ok (.value (.slice A n c)) w := by
  simp only [execOp, ho, hx]
  go_simp
theorem k_loadW {A : Option Addr} {n c : Nat} (ho : o.op = .load 34 x) (hx : ρ x = .pointer (some ad)) (hc : w.cell? ad = some (.slice A n c)) : (execOp ρ o).run Tryz.prog w = .ok (.value (.slice A n c)) w := by
  simp only [execOp, ho, hx]
  go_simp
theorem k_lenL {A : Option Addr} {n c : Nat} (ho : o.op = .call ⟨.builtin .len, #[x], #[33]⟩) (hx : ρ x = .slice A n c) : (execOp ρ o).run Tryz.prog w = .ok (.value (.int .i64 n)) w := by
  simp only [execOp, ho]
  go_simp
theorem k_lenW {A : Option Addr} {n c : Nat} (ho : o.op = .call ⟨.builtin .len, #[x], #[34]⟩) (hx : ρ x = .slice A n c) : (execOp ρ o).run Tryz.prog w = .ok (.value (.int .i64 n)) w := by
  simp only [execOp, ho]
  go_simp
theorem k_lt {n m : Int} {r : Bool} (ho : o.op = .binOp .lss 3 x (.const (.int .i64 m)) 3) (hx : ρ x = .int .i64 n) (hc : ρ (.const (.int .i64 m)) = .int .i64 m) (hr : (decide (n < m)) = r) : (execOp ρ o).run Tryz.prog w = .ok (.value (.bool r)) w := by
  subst hr
  simp only [execOp, ho, hx, hc]
  go_simp
theorem k_gt {n m : Int} {r : Bool} (ho : o.op = .binOp .gtr 3 x (.const (.int .i64 m)) 3) (hx : ρ x = .int .i64 n) (hc : ρ (.const (.int .i64 m)) = .int .i64 m) (hr : (decide (m < n)) = r) : (execOp ρ o).run Tryz.prog w = .ok (.value (.bool r)) w := by
  subst hr
  simp only [execOp, ho, hx, hc]
  go_simp
theorem k_eq {n m : Int} {r : Bool} (ho : o.op = .binOp .eql 3 x (.const (.int .i64 m)) 3) (hx : ρ x = .int .i64 n) (hc : ρ (.const (.int .i64 m)) = .int .i64 m) (hr : (n == m) = r) : (execOp ρ o).run Tryz.prog w = .ok (.value (.bool r)) w := by
  subst hr
  simp only [execOp, ho, hx, hc]
  go_simp
theorem k_eqF {n m : Int} {r : Bool} (ho : o.op = .binOp .eql 31 x (.const (.int .i64 m)) 31) (hx : ρ x = .int .i64 n) (hc : ρ (.const (.int .i64 m)) = .int .i64 m) (hr : (n == m) = r) : (execOp ρ o).run Tryz.prog w = .ok (.value (.bool r)) w := by
  subst hr
  simp only [execOp, ho, hx, hc]
  go_simp
theorem k_neU {n m : Int} {r : Bool} (ho : o.op = .binOp .neq 32 x (.const (.int .i64 m)) 32) (hx : ρ x = .int .i64 n) (hc : ρ (.const (.int .i64 m)) = .int .i64 m) (hr : (n != m) = r) : (execOp ρ o).run Tryz.prog w = .ok (.value (.bool r)) w := by
  subst hr
  simp only [execOp, ho, hx, hc]
  go_simp
theorem k_ltU {n m : Int} {r : Bool} (ho : o.op = .binOp .lss 32 x (.const (.int .i64 m)) 32) (hx : ρ x = .int .i64 n) (hc : ρ (.const (.int .i64 m)) = .int .i64 m) (hr : (decide (n < m)) = r) : (execOp ρ o).run Tryz.prog w = .ok (.value (.bool r)) w := by
  subst hr
  simp only [execOp, ho, hx, hc]
  go_simp
theorem k_gtU {n m : Int} {r : Bool} (ho : o.op = .binOp .gtr 32 x (.const (.int .i64 m)) 32) (hx : ρ x = .int .i64 n) (hc : ρ (.const (.int .i64 m)) = .int .i64 m) (hr : (decide (m < n)) = r) : (execOp ρ o).run Tryz.prog w = .ok (.value (.bool r)) w := by
  subst hr
  simp only [execOp, ho, hx, hc]
  go_simp
end
end Go.Proofs.YtkcolbeemmnolaaGreatDoor
/-
  Guards of operations; one operation over a frame that is a letter.
-/
namespace Go.Proofs.YtkcolbeemmnolaaGreatDoor
open Go.RowKit
section
variable {P : Program} {ops : Array Oper} {Q : Exit → Act → World → Prop} {a : Act} {w : World}
/-- one operation: behind it the frame is a letter again -/
theorem opsL (i d : Nat) {v : Value} {rest : List Nat} (hd : (ops[i]?).map (·.dst) = some (some d)) (hz : d < a.tmps.size)
    (hy : ∀ o, ops[i]? = some o → (Region.wanted o (yielded ops a.tmps) = true ∧ (execOp a.eval o).run P w = .ok (.value v) w) ∨ (Region.wanted o (yielded ops a.tmps) = false ∧ v = undef))
    (h : ∀ a' : Act, a'.tmps.size = a.tmps.size → a'.tmps.getD d undef = v → (∀ k, k ≠ d → a'.tmps.getD k undef = a.tmps.getD k undef) → a'.defers = a.defers → wpOps P ops Q rest a' w) :
    wpOps P ops Q (i :: rest) a w := by
  have h' := h (a.put (some d) v) put_size (put_get hz) (fun k hk => put_ne (Ne.symm hk)) rfl
  cases ho : ops[i]? with
  | none => rw [ho] at hd; cases hd
  | some o =>
    rw [ho] at hd
    have e : o.dst = some d := by simpa using hd
    rw [wpOps_cons]
    rcases hy o ho with ⟨h1, h2⟩ | ⟨h1, rfl⟩
    · simp only [wpOp, ho, h1, if_true]
      left
      unfold Oper.wp
      rw [h2, Oper.upon_value, e]
      exact h'
    · simp only [wpOp, ho, h1]
      rw [e]
      exact h'
theorem wanted_at {o : Oper} {t : Array Value} {j d : Nat} {want b : Bool} (hg : o.guard = some (j, want)) (hj : (ops[j]?).bind (·.dst) = some d) (hv : t.getD d undef = .bool b) :
    Region.wanted o (yielded ops t) = (b == want) := by
  have hd : d < t.size := by
    apply Classical.byContradiction
    intro h
    simp [Array.getD, h, undef] at hv
  have h2 : t[d]? = some (.bool b) := by
    rw [Array.getElem?_eq_getElem hd]
    simpa [Array.getD, hd] using hv
  simp only [Region.wanted, hg, yielded, hj, Option.bind_some, h2]
  cases b <;> cases want <;> rfl
theorem wanted_not {o : Oper} {t : Array Value} {j d : Nat} {want : Bool} (hg : o.guard = some (j, want)) (hj : (ops[j]?).bind (·.dst) = some d) (hv : t.getD d undef = undef) :
    Region.wanted o (yielded ops t) = false := by
  simp only [Region.wanted, hg, yielded, hj, Option.bind_some]
  by_cases hd : d < t.size
  · have h2 : t[d]? = some undef := by
      rw [Array.getElem?_eq_getElem hd]
      simpa [Array.getD, hd] using hv
    rw [h2]
    cases want <;> rfl
  · have h2 : t[d]? = none := by simpa using hd
    rw [h2]
    cases want <;> rfl
theorem Keep.step {lo hi x d : Nat} {t u u' : Array Value} (h : Keep lo hi x t u) (z : u'.size = u.size) (n : ∀ k, k ≠ d → u'.getD k undef = u.getD k undef) (hd : d = x ∨ lo ≤ d ∧ d ≤ hi) : Keep lo hi x t u' :=
  ⟨z.trans h.1, fun k h1 h2 => (n k (by omega)).trans (h.2 k h1 h2)⟩
end
end Go.Proofs.YtkcolbeemmnolaaGreatDoor
/-
  Steps over a frame that is a letter: behind each operation the frame is a letter again, with what it holds as facts.
-/
namespace Go.Proofs.YtkcolbeemmnolaaGreatDoor
open Go.RowKit
/-- the frame a' is a with slot d set to v -/
structure Fr (d : Nat) (v : Value) (a a' : Act) : Prop where
  z : a'.tmps.size = a.tmps.size
  s : a'.tmps.getD d undef = v
  n : ∀ k, k ≠ d → a'.tmps.getD k undef = a.tmps.getD k undef
  e : a'.defers = a.defers
theorem fr_put {a : Act} {d : Nat} {v : Value} (h : d < a.tmps.size) : Fr d v a (a.put (some d) v) :=
  ⟨put_size, put_get h, fun _ hk => put_ne (Ne.symm hk), rfl⟩
section
variable {P : Program} {ops : Array Oper} {Q : Exit → Act → World → Prop} {S : World → Prop} {fuel : Nat} {listed : Array Bool} {a : Act} {w w' : World} {v : Value}
theorem dst_of {i : Nat} {o : Oper} {x : Option Tmp} (hd : (ops[i]?).map (·.dst) = some x) (ho : ops[i]? = some o) : o.dst = x := by
  rw [ho] at hd; simpa using hd
theorem some_of {i : Nat} {x : Option Tmp} (hd : (ops[i]?).map (·.dst) = some x) : ∃ o, ops[i]? = some o := by
  cases ho : ops[i]? with
  | none => rw [ho] at hd; cases hd
  | some o => exact ⟨o, rfl⟩
/-- plain region: a value, and the world goes on -/
theorem opL (i d : Nat) {rest : List Nat} (hd : (ops[i]?).map (·.dst) = some (some d)) (hz : d < a.tmps.size)
    (hy : ∀ o, ops[i]? = some o → Region.wanted o (yielded ops a.tmps) = true ∧ (execOp a.eval o).run P w = .ok (.value v) w')
    (h : ∀ a' : Act, Fr d v a a' → wpOps P ops Q rest a' w') : wpOps P ops Q (i :: rest) a w := by
  obtain ⟨o, ho⟩ := some_of hd
  obtain ⟨h1, h2⟩ := hy o ho
  rw [wpOps_cons]
  simp only [wpOp, ho, h1, if_true]
  left
  unfold Oper.wp
  rw [h2, Oper.upon_value, dst_of hd ho]
  exact h _ (fr_put hz)
/-- plain region: passed over -/
theorem opL_not (i d : Nat) {rest : List Nat} (hd : (ops[i]?).map (·.dst) = some (some d)) (hz : d < a.tmps.size)
    (hy : ∀ o, ops[i]? = some o → Region.wanted o (yielded ops a.tmps) = false)
    (h : ∀ a' : Act, Fr d undef a a' → wpOps P ops Q rest a' w) : wpOps P ops Q (i :: rest) a w := by
  obtain ⟨o, ho⟩ := some_of hd
  rw [wpOps_cons]
  simp only [wpOp, ho, hy o ho]
  rw [dst_of hd ho]
  exact h _ (fr_put hz)
/-- plain region: a store -/
theorem opL_store (i : Nat) {rest : List Nat} (hd : (ops[i]?).map (·.dst) = some none)
    (hy : ∀ o, ops[i]? = some o → Region.wanted o (yielded ops a.tmps) = true ∧ (execOp a.eval o).run P w = .ok .skip w')
    (h : wpOps P ops Q rest a w') : wpOps P ops Q (i :: rest) a w := by
  obtain ⟨o, ho⟩ := some_of hd
  obtain ⟨h1, h2⟩ := hy o ho
  rw [wpOps_cons]
  simp only [wpOp, ho, h1, if_true]
  left
  unfold Oper.wp
  rw [h2, Oper.upon_skip, dst_of hd ho]
  exact h
/-- plain region: a call -/
theorem opL_call (i d : Nat) {rest : List Nat} {f : FuncId} {args : Array Value} {R : Value → World → Prop} (hd : (ops[i]?).map (·.dst) = some (some d)) (hz : d < a.tmps.size)
    (hy : ∀ o, ops[i]? = some o → Region.wanted o (yielded ops a.tmps) = true ∧ (execOp a.eval o).run P w = .ok (.enter f args) w)
    (hc : Calls P f args w fun e w' => ∃ v, e = .returned v ∧ R v w')
    (h : ∀ (v : Value) (w' : World) (a' : Act), R v w' → Fr d v a a' → wpOps P ops Q rest a' w') : wpOps P ops Q (i :: rest) a w := by
  obtain ⟨o, ho⟩ := some_of hd
  obtain ⟨h1, h2⟩ := hy o ho
  rw [wpOps_cons]
  simp only [wpOp, ho, h1, if_true]
  left
  unfold Oper.wp
  rw [h2, Oper.upon_enter]
  refine hc.mono ?_
  rintro e w' ⟨v, rfl, hR⟩
  show wpOps P ops Q rest (a.put o.dst v) w'
  rw [dst_of hd ho]
  exact h v w' _ hR (fr_put hz)
/-- drawn region: a value, in every world that meets S -/
theorem heldL (i d : Nat) (hQ : Blind Q) (hd : (ops[i]?).map (·.dst) = some (some d)) (hz : d < a.tmps.size) (hs : Region.noSelect ops = true) (hf : Region.free .any ops listed i = true)
    (hr : (Region.ready .any ops listed).contains i = true) (hS : S w)
    (hy : ∀ o, ops[i]? = some o → (Region.wanted o (yielded ops a.tmps) = true ∧ ∀ w, S w → (execOp a.eval o).run P w = .ok (.value v) w) ∨ (Region.wanted o (yielded ops a.tmps) = false ∧ v = undef))
    (h : ∀ a' : Act, Fr d v a a' → wpAnyH P .any ops Q S fuel (listed.setIfInBounds i true) a' w) : wpAnyH P .any ops Q S (fuel + 1) listed a w :=
  step_take i d hQ hd hs hf hr hS hy (h _ (fr_put hz))
/-- drawn region: one that must come now -/
theorem heldL_do (i d : Nat) (hr : Region.ready .any ops listed = [i]) (hd : (ops[i]?).map (·.dst) = some (some d)) (hz : d < a.tmps.size)
    (hy : ∀ o, ops[i]? = some o → Region.wanted o (yielded ops a.tmps) = true ∧ (execOp a.eval o).run P w = .ok (.value v) w') (hS : S w')
    (h : ∀ a' : Act, Fr d v a a' → wpAnyH P .any ops Q S fuel (listed.setIfInBounds i true) a' w') : wpAnyH P .any ops Q S (fuel + 1) listed a w := by
  refine step_do i hr ?_
  intro o ho K hK
  obtain ⟨h1, h2⟩ := hy o ho
  rw [if_pos h1]
  unfold Oper.wp
  rw [h2, Oper.upon_value, dst_of hd ho]
  exact hK.out _ _ hS (fun _ => h _ (fr_put hz))
/-- drawn region: a store that must come now -/
theorem heldL_store (i : Nat) (hr : Region.ready .any ops listed = [i]) (hd : (ops[i]?).map (·.dst) = some none)
    (hy : ∀ o, ops[i]? = some o → Region.wanted o (yielded ops a.tmps) = true ∧ (execOp a.eval o).run P w = .ok .skip w') (hS : S w')
    (h : wpAnyH P .any ops Q S fuel (listed.setIfInBounds i true) a w') : wpAnyH P .any ops Q S (fuel + 1) listed a w := by
  refine step_do i hr ?_
  intro o ho K hK
  obtain ⟨h1, h2⟩ := hy o ho
  rw [if_pos h1]
  unfold Oper.wp
  rw [h2, Oper.upon_skip, dst_of hd ho]
  exact hK.out _ _ hS (fun _ => h)
/-- drawn region: a call that must come now -/
theorem heldL_call (i d : Nat) {f : FuncId} {args : Array Value} {R : Value → World → Prop} (hr : Region.ready .any ops listed = [i]) (hd : (ops[i]?).map (·.dst) = some (some d)) (hz : d < a.tmps.size)
    (hy : ∀ o, ops[i]? = some o → Region.wanted o (yielded ops a.tmps) = true ∧ (execOp a.eval o).run P w = .ok (.enter f args) w)
    (hc : Calls P f args w fun e w' => ∃ v, e = .returned v ∧ R v w') (hS : ∀ v w', R v w' → S w')
    (h : ∀ (v : Value) (w' : World) (a' : Act), R v w' → Fr d v a a' → wpAnyH P .any ops Q S fuel (listed.setIfInBounds i true) a' w') : wpAnyH P .any ops Q S (fuel + 1) listed a w := by
  refine step_do i hr ?_
  intro o ho K hK
  obtain ⟨h1, h2⟩ := hy o ho
  rw [if_pos h1]
  unfold Oper.wp
  rw [h2, Oper.upon_enter]
  refine hc.mono ?_
  rintro e w' ⟨v, rfl, hR⟩
  show K (a.put o.dst v) w'
  rw [dst_of hd ho]
  exact hK.out _ _ (hS v w' hR) (fun _ => h v w' _ hR (fr_put hz))
end
/-! one line behind an operation: what the frame held, it holds; squeeze.py wrote these -/
theorem frY {x : Oper} {u : Oper → Bool} {b : Bool} {R : Oper → Prop} (e : u x = b) (h : R x) : ∀ o, some x = some o → u o = b ∧ R o := by rintro o ⟨⟩; exact ⟨e, h⟩
theorem frZ {x n d : Nat} (h : x = n) (e : Nat.ble (d + 1) n = true := by rfl) : d < x := by subst h; exact Nat.le_of_ble_eq_true e
theorem frA {k d : Nat} {r : Bool} (h : (Nat.beq k d || r) = false) : k ≠ d := by rintro rfl; simp at h
theorem frB {k : Bool} {r : Bool} (h : (k || r) = false) : r = false := by cases k <;> simp_all
theorem frM0 {a : Act} {d z : Nat} {v : Value} {y : List Deferred} {G : Act → Prop} (g : ∀ b : Act, b.tmps.size = z → b.defers = y → b.tmps.getD d undef = v → G b) : a.tmps.size = z → a.defers = y → ∀ b, Fr d v a b → G b := by
  intro hs hd b F
  exact g b (F.z.trans hs) (F.e.trans hd) F.s
theorem frN0 {a : Act} {d z : Nat} {v : Value} {y : List Deferred} {G : Act → Prop} (hs : a.tmps.size = z) (hd : a.defers = y) (g : ∀ b : Act, b.tmps.size = z → b.defers = y → b.tmps.getD d undef = v → G b) : ∀ b, Fr d v a b → G b := frM0 g hs hd
theorem frM1 {a : Act} {d z k0 : Nat} {v x0 : Value} {y : List Deferred} {G : Act → Prop} (g : ∀ b : Act, b.tmps.size = z → b.defers = y → b.tmps.getD k0 undef = x0 → b.tmps.getD d undef = v → G b) (e : (Nat.beq k0 d || false) = false := by rfl) : a.tmps.size = z → a.defers = y → a.tmps.getD k0 undef = x0 → ∀ b, Fr d v a b → G b := by
  intro hs hd h0 b F
  have e0 := frA e; replace e := frB e
  exact g b (F.z.trans hs) (F.e.trans hd) ((F.n _ e0).trans h0) F.s
theorem frN1 {a : Act} {d z k0 : Nat} {v x0 : Value} {y : List Deferred} {G : Act → Prop} (hs : a.tmps.size = z) (hd : a.defers = y) (h0 : a.tmps.getD k0 undef = x0) (g : ∀ b : Act, b.tmps.size = z → b.defers = y → b.tmps.getD k0 undef = x0 → b.tmps.getD d undef = v → G b) (e : (Nat.beq k0 d || false) = false := by rfl) : ∀ b, Fr d v a b → G b := frM1 g e hs hd h0
theorem frM2 {a : Act} {d z k0 k1 : Nat} {v x0 x1 : Value} {y : List Deferred} {G : Act → Prop} (g : ∀ b : Act, b.tmps.size = z → b.defers = y → b.tmps.getD k0 undef = x0 → b.tmps.getD k1 undef = x1 → b.tmps.getD d undef = v → G b) (e : (Nat.beq k0 d || (Nat.beq k1 d || false)) = false := by rfl) : a.tmps.size = z → a.defers = y → a.tmps.getD k0 undef = x0 → a.tmps.getD k1 undef = x1 → ∀ b, Fr d v a b → G b := by
  intro hs hd h0 h1 b F
  have e0 := frA e; replace e := frB e
  have e1 := frA e; replace e := frB e
  exact g b (F.z.trans hs) (F.e.trans hd) ((F.n _ e0).trans h0) ((F.n _ e1).trans h1) F.s
theorem frN2 {a : Act} {d z k0 k1 : Nat} {v x0 x1 : Value} {y : List Deferred} {G : Act → Prop} (hs : a.tmps.size = z) (hd : a.defers = y) (h0 : a.tmps.getD k0 undef = x0) (h1 : a.tmps.getD k1 undef = x1) (g : ∀ b : Act, b.tmps.size = z → b.defers = y → b.tmps.getD k0 undef = x0 → b.tmps.getD k1 undef = x1 → b.tmps.getD d undef = v → G b) (e : (Nat.beq k0 d || (Nat.beq k1 d || false)) = false := by rfl) : ∀ b, Fr d v a b → G b := frM2 g e hs hd h0 h1
theorem frM3 {a : Act} {d z k0 k1 k2 : Nat} {v x0 x1 x2 : Value} {y : List Deferred} {G : Act → Prop} (g : ∀ b : Act, b.tmps.size = z → b.defers = y → b.tmps.getD k0 undef = x0 → b.tmps.getD k1 undef = x1 → b.tmps.getD k2 undef = x2 → b.tmps.getD d undef = v → G b) (e : (Nat.beq k0 d || (Nat.beq k1 d || (Nat.beq k2 d || false))) = false := by rfl) : a.tmps.size = z → a.defers = y → a.tmps.getD k0 undef = x0 → a.tmps.getD k1 undef = x1 → a.tmps.getD k2 undef = x2 → ∀ b, Fr d v a b → G b := by
  intro hs hd h0 h1 h2 b F
  have e0 := frA e; replace e := frB e
  have e1 := frA e; replace e := frB e
  have e2 := frA e; replace e := frB e
  exact g b (F.z.trans hs) (F.e.trans hd) ((F.n _ e0).trans h0) ((F.n _ e1).trans h1) ((F.n _ e2).trans h2) F.s
theorem frN3 {a : Act} {d z k0 k1 k2 : Nat} {v x0 x1 x2 : Value} {y : List Deferred} {G : Act → Prop} (hs : a.tmps.size = z) (hd : a.defers = y) (h0 : a.tmps.getD k0 undef = x0) (h1 : a.tmps.getD k1 undef = x1) (h2 : a.tmps.getD k2 undef = x2) (g : ∀ b : Act, b.tmps.size = z → b.defers = y → b.tmps.getD k0 undef = x0 → b.tmps.getD k1 undef = x1 → b.tmps.getD k2 undef = x2 → b.tmps.getD d undef = v → G b) (e : (Nat.beq k0 d || (Nat.beq k1 d || (Nat.beq k2 d || false))) = false := by rfl) : ∀ b, Fr d v a b → G b := frM3 g e hs hd h0 h1 h2
theorem frM4 {a : Act} {d z k0 k1 k2 k3 : Nat} {v x0 x1 x2 x3 : Value} {y : List Deferred} {G : Act → Prop} (g : ∀ b : Act, b.tmps.size = z → b.defers = y → b.tmps.getD k0 undef = x0 → b.tmps.getD k1 undef = x1 → b.tmps.getD k2 undef = x2 → b.tmps.getD k3 undef = x3 → b.tmps.getD d undef = v → G b) (e : (Nat.beq k0 d || (Nat.beq k1 d || (Nat.beq k2 d || (Nat.beq k3 d || false)))) = false := by rfl) : a.tmps.size = z → a.defers = y → a.tmps.getD k0 undef = x0 → a.tmps.getD k1 undef = x1 → a.tmps.getD k2 undef = x2 → a.tmps.getD k3 undef = x3 → ∀ b, Fr d v a b → G b := by
  intro hs hd h0 h1 h2 h3 b F
  have e0 := frA e; replace e := frB e
  have e1 := frA e; replace e := frB e
  have e2 := frA e; replace e := frB e
  have e3 := frA e; replace e := frB e
  exact g b (F.z.trans hs) (F.e.trans hd) ((F.n _ e0).trans h0) ((F.n _ e1).trans h1) ((F.n _ e2).trans h2) ((F.n _ e3).trans h3) F.s
theorem frN4 {a : Act} {d z k0 k1 k2 k3 : Nat} {v x0 x1 x2 x3 : Value} {y : List Deferred} {G : Act → Prop} (hs : a.tmps.size = z) (hd : a.defers = y) (h0 : a.tmps.getD k0 undef = x0) (h1 : a.tmps.getD k1 undef = x1) (h2 : a.tmps.getD k2 undef = x2) (h3 : a.tmps.getD k3 undef = x3) (g : ∀ b : Act, b.tmps.size = z → b.defers = y → b.tmps.getD k0 undef = x0 → b.tmps.getD k1 undef = x1 → b.tmps.getD k2 undef = x2 → b.tmps.getD k3 undef = x3 → b.tmps.getD d undef = v → G b) (e : (Nat.beq k0 d || (Nat.beq k1 d || (Nat.beq k2 d || (Nat.beq k3 d || false)))) = false := by rfl) : ∀ b, Fr d v a b → G b := frM4 g e hs hd h0 h1 h2 h3
theorem frM5 {a : Act} {d z k0 k1 k2 k3 k4 : Nat} {v x0 x1 x2 x3 x4 : Value} {y : List Deferred} {G : Act → Prop} (g : ∀ b : Act, b.tmps.size = z → b.defers = y → b.tmps.getD k0 undef = x0 → b.tmps.getD k1 undef = x1 → b.tmps.getD k2 undef = x2 → b.tmps.getD k3 undef = x3 → b.tmps.getD k4 undef = x4 → b.tmps.getD d undef = v → G b) (e : (Nat.beq k0 d || (Nat.beq k1 d || (Nat.beq k2 d || (Nat.beq k3 d || (Nat.beq k4 d || false))))) = false := by rfl) : a.tmps.size = z → a.defers = y → a.tmps.getD k0 undef = x0 → a.tmps.getD k1 undef = x1 → a.tmps.getD k2 undef = x2 → a.tmps.getD k3 undef = x3 → a.tmps.getD k4 undef = x4 → ∀ b, Fr d v a b → G b := by
  intro hs hd h0 h1 h2 h3 h4 b F
  have e0 := frA e; replace e := frB e
  have e1 := frA e; replace e := frB e
  have e2 := frA e; replace e := frB e
  have e3 := frA e; replace e := frB e
  have e4 := frA e; replace e := frB e
  exact g b (F.z.trans hs) (F.e.trans hd) ((F.n _ e0).trans h0) ((F.n _ e1).trans h1) ((F.n _ e2).trans h2) ((F.n _ e3).trans h3) ((F.n _ e4).trans h4) F.s
theorem frN5 {a : Act} {d z k0 k1 k2 k3 k4 : Nat} {v x0 x1 x2 x3 x4 : Value} {y : List Deferred} {G : Act → Prop} (hs : a.tmps.size = z) (hd : a.defers = y) (h0 : a.tmps.getD k0 undef = x0) (h1 : a.tmps.getD k1 undef = x1) (h2 : a.tmps.getD k2 undef = x2) (h3 : a.tmps.getD k3 undef = x3) (h4 : a.tmps.getD k4 undef = x4) (g : ∀ b : Act, b.tmps.size = z → b.defers = y → b.tmps.getD k0 undef = x0 → b.tmps.getD k1 undef = x1 → b.tmps.getD k2 undef = x2 → b.tmps.getD k3 undef = x3 → b.tmps.getD k4 undef = x4 → b.tmps.getD d undef = v → G b) (e : (Nat.beq k0 d || (Nat.beq k1 d || (Nat.beq k2 d || (Nat.beq k3 d || (Nat.beq k4 d || false))))) = false := by rfl) : ∀ b, Fr d v a b → G b := frM5 g e hs hd h0 h1 h2 h3 h4
theorem frM6 {a : Act} {d z k0 k1 k2 k3 k4 k5 : Nat} {v x0 x1 x2 x3 x4 x5 : Value} {y : List Deferred} {G : Act → Prop} (g : ∀ b : Act, b.tmps.size = z → b.defers = y → b.tmps.getD k0 undef = x0 → b.tmps.getD k1 undef = x1 → b.tmps.getD k2 undef = x2 → b.tmps.getD k3 undef = x3 → b.tmps.getD k4 undef = x4 → b.tmps.getD k5 undef = x5 → b.tmps.getD d undef = v → G b) (e : (Nat.beq k0 d || (Nat.beq k1 d || (Nat.beq k2 d || (Nat.beq k3 d || (Nat.beq k4 d || (Nat.beq k5 d || false)))))) = false := by rfl) : a.tmps.size = z → a.defers = y → a.tmps.getD k0 undef = x0 → a.tmps.getD k1 undef = x1 → a.tmps.getD k2 undef = x2 → a.tmps.getD k3 undef = x3 → a.tmps.getD k4 undef = x4 → a.tmps.getD k5 undef = x5 → ∀ b, Fr d v a b → G b := by
  intro hs hd h0 h1 h2 h3 h4 h5 b F
  have e0 := frA e; replace e := frB e
  have e1 := frA e; replace e := frB e
  have e2 := frA e; replace e := frB e
  have e3 := frA e; replace e := frB e
  have e4 := frA e; replace e := frB e
  have e5 := frA e; replace e := frB e
  exact g b (F.z.trans hs) (F.e.trans hd) ((F.n _ e0).trans h0) ((F.n _ e1).trans h1) ((F.n _ e2).trans h2) ((F.n _ e3).trans h3) ((F.n _ e4).trans h4) ((F.n _ e5).trans h5) F.s
theorem frN6 {a : Act} {d z k0 k1 k2 k3 k4 k5 : Nat} {v x0 x1 x2 x3 x4 x5 : Value} {y : List Deferred} {G : Act → Prop} (hs : a.tmps.size = z) (hd : a.defers = y) (h0 : a.tmps.getD k0 undef = x0) (h1 : a.tmps.getD k1 undef = x1) (h2 : a.tmps.getD k2 undef = x2) (h3 : a.tmps.getD k3 undef = x3) (h4 : a.tmps.getD k4 undef = x4) (h5 : a.tmps.getD k5 undef = x5) (g : ∀ b : Act, b.tmps.size = z → b.defers = y → b.tmps.getD k0 undef = x0 → b.tmps.getD k1 undef = x1 → b.tmps.getD k2 undef = x2 → b.tmps.getD k3 undef = x3 → b.tmps.getD k4 undef = x4 → b.tmps.getD k5 undef = x5 → b.tmps.getD d undef = v → G b) (e : (Nat.beq k0 d || (Nat.beq k1 d || (Nat.beq k2 d || (Nat.beq k3 d || (Nat.beq k4 d || (Nat.beq k5 d || false)))))) = false := by rfl) : ∀ b, Fr d v a b → G b := frM6 g e hs hd h0 h1 h2 h3 h4 h5
theorem frM7 {a : Act} {d z k0 k1 k2 k3 k4 k5 k6 : Nat} {v x0 x1 x2 x3 x4 x5 x6 : Value} {y : List Deferred} {G : Act → Prop} (g : ∀ b : Act, b.tmps.size = z → b.defers = y → b.tmps.getD k0 undef = x0 → b.tmps.getD k1 undef = x1 → b.tmps.getD k2 undef = x2 → b.tmps.getD k3 undef = x3 → b.tmps.getD k4 undef = x4 → b.tmps.getD k5 undef = x5 → b.tmps.getD k6 undef = x6 → b.tmps.getD d undef = v → G b) (e : (Nat.beq k0 d || (Nat.beq k1 d || (Nat.beq k2 d || (Nat.beq k3 d || (Nat.beq k4 d || (Nat.beq k5 d || (Nat.beq k6 d || false))))))) = false := by rfl) : a.tmps.size = z → a.defers = y → a.tmps.getD k0 undef = x0 → a.tmps.getD k1 undef = x1 → a.tmps.getD k2 undef = x2 → a.tmps.getD k3 undef = x3 → a.tmps.getD k4 undef = x4 → a.tmps.getD k5 undef = x5 → a.tmps.getD k6 undef = x6 → ∀ b, Fr d v a b → G b := by
  intro hs hd h0 h1 h2 h3 h4 h5 h6 b F
  have e0 := frA e; replace e := frB e
  have e1 := frA e; replace e := frB e
  have e2 := frA e; replace e := frB e
  have e3 := frA e; replace e := frB e
  have e4 := frA e; replace e := frB e
  have e5 := frA e; replace e := frB e
  have e6 := frA e; replace e := frB e
  exact g b (F.z.trans hs) (F.e.trans hd) ((F.n _ e0).trans h0) ((F.n _ e1).trans h1) ((F.n _ e2).trans h2) ((F.n _ e3).trans h3) ((F.n _ e4).trans h4) ((F.n _ e5).trans h5) ((F.n _ e6).trans h6) F.s
theorem frN7 {a : Act} {d z k0 k1 k2 k3 k4 k5 k6 : Nat} {v x0 x1 x2 x3 x4 x5 x6 : Value} {y : List Deferred} {G : Act → Prop} (hs : a.tmps.size = z) (hd : a.defers = y) (h0 : a.tmps.getD k0 undef = x0) (h1 : a.tmps.getD k1 undef = x1) (h2 : a.tmps.getD k2 undef = x2) (h3 : a.tmps.getD k3 undef = x3) (h4 : a.tmps.getD k4 undef = x4) (h5 : a.tmps.getD k5 undef = x5) (h6 : a.tmps.getD k6 undef = x6) (g : ∀ b : Act, b.tmps.size = z → b.defers = y → b.tmps.getD k0 undef = x0 → b.tmps.getD k1 undef = x1 → b.tmps.getD k2 undef = x2 → b.tmps.getD k3 undef = x3 → b.tmps.getD k4 undef = x4 → b.tmps.getD k5 undef = x5 → b.tmps.getD k6 undef = x6 → b.tmps.getD d undef = v → G b) (e : (Nat.beq k0 d || (Nat.beq k1 d || (Nat.beq k2 d || (Nat.beq k3 d || (Nat.beq k4 d || (Nat.beq k5 d || (Nat.beq k6 d || false))))))) = false := by rfl) : ∀ b, Fr d v a b → G b := frM7 g e hs hd h0 h1 h2 h3 h4 h5 h6
theorem frM8 {a : Act} {d z k0 k1 k2 k3 k4 k5 k6 k7 : Nat} {v x0 x1 x2 x3 x4 x5 x6 x7 : Value} {y : List Deferred} {G : Act → Prop} (g : ∀ b : Act, b.tmps.size = z → b.defers = y → b.tmps.getD k0 undef = x0 → b.tmps.getD k1 undef = x1 → b.tmps.getD k2 undef = x2 → b.tmps.getD k3 undef = x3 → b.tmps.getD k4 undef = x4 → b.tmps.getD k5 undef = x5 → b.tmps.getD k6 undef = x6 → b.tmps.getD k7 undef = x7 → b.tmps.getD d undef = v → G b) (e : (Nat.beq k0 d || (Nat.beq k1 d || (Nat.beq k2 d || (Nat.beq k3 d || (Nat.beq k4 d || (Nat.beq k5 d || (Nat.beq k6 d || (Nat.beq k7 d || false)))))))) = false := by rfl) : a.tmps.size = z → a.defers = y → a.tmps.getD k0 undef = x0 → a.tmps.getD k1 undef = x1 → a.tmps.getD k2 undef = x2 → a.tmps.getD k3 undef = x3 → a.tmps.getD k4 undef = x4 → a.tmps.getD k5 undef = x5 → a.tmps.getD k6 undef = x6 → a.tmps.getD k7 undef = x7 → ∀ b, Fr d v a b → G b := by
  intro hs hd h0 h1 h2 h3 h4 h5 h6 h7 b F
  have e0 := frA e; replace e := frB e
  have e1 := frA e; replace e := frB e
  have e2 := frA e; replace e := frB e
  have e3 := frA e; replace e := frB e
  have e4 := frA e; replace e := frB e
  have e5 := frA e; replace e := frB e
  have e6 := frA e; replace e := frB e
  have e7 := frA e; replace e := frB e
  exact g b (F.z.trans hs) (F.e.trans hd) ((F.n _ e0).trans h0) ((F.n _ e1).trans h1) ((F.n _ e2).trans h2) ((F.n _ e3).trans h3) ((F.n _ e4).trans h4) ((F.n _ e5).trans h5) ((F.n _ e6).trans h6) ((F.n _ e7).trans h7) F.s
theorem frN8 {a : Act} {d z k0 k1 k2 k3 k4 k5 k6 k7 : Nat} {v x0 x1 x2 x3 x4 x5 x6 x7 : Value} {y : List Deferred} {G : Act → Prop} (hs : a.tmps.size = z) (hd : a.defers = y) (h0 : a.tmps.getD k0 undef = x0) (h1 : a.tmps.getD k1 undef = x1) (h2 : a.tmps.getD k2 undef = x2) (h3 : a.tmps.getD k3 undef = x3) (h4 : a.tmps.getD k4 undef = x4) (h5 : a.tmps.getD k5 undef = x5) (h6 : a.tmps.getD k6 undef = x6) (h7 : a.tmps.getD k7 undef = x7) (g : ∀ b : Act, b.tmps.size = z → b.defers = y → b.tmps.getD k0 undef = x0 → b.tmps.getD k1 undef = x1 → b.tmps.getD k2 undef = x2 → b.tmps.getD k3 undef = x3 → b.tmps.getD k4 undef = x4 → b.tmps.getD k5 undef = x5 → b.tmps.getD k6 undef = x6 → b.tmps.getD k7 undef = x7 → b.tmps.getD d undef = v → G b) (e : (Nat.beq k0 d || (Nat.beq k1 d || (Nat.beq k2 d || (Nat.beq k3 d || (Nat.beq k4 d || (Nat.beq k5 d || (Nat.beq k6 d || (Nat.beq k7 d || false)))))))) = false := by rfl) : ∀ b, Fr d v a b → G b := frM8 g e hs hd h0 h1 h2 h3 h4 h5 h6 h7
theorem frM9 {a : Act} {d z k0 k1 k2 k3 k4 k5 k6 k7 k8 : Nat} {v x0 x1 x2 x3 x4 x5 x6 x7 x8 : Value} {y : List Deferred} {G : Act → Prop} (g : ∀ b : Act, b.tmps.size = z → b.defers = y → b.tmps.getD k0 undef = x0 → b.tmps.getD k1 undef = x1 → b.tmps.getD k2 undef = x2 → b.tmps.getD k3 undef = x3 → b.tmps.getD k4 undef = x4 → b.tmps.getD k5 undef = x5 → b.tmps.getD k6 undef = x6 → b.tmps.getD k7 undef = x7 → b.tmps.getD k8 undef = x8 → b.tmps.getD d undef = v → G b) (e : (Nat.beq k0 d || (Nat.beq k1 d || (Nat.beq k2 d || (Nat.beq k3 d || (Nat.beq k4 d || (Nat.beq k5 d || (Nat.beq k6 d || (Nat.beq k7 d || (Nat.beq k8 d || false))))))))) = false := by rfl) : a.tmps.size = z → a.defers = y → a.tmps.getD k0 undef = x0 → a.tmps.getD k1 undef = x1 → a.tmps.getD k2 undef = x2 → a.tmps.getD k3 undef = x3 → a.tmps.getD k4 undef = x4 → a.tmps.getD k5 undef = x5 → a.tmps.getD k6 undef = x6 → a.tmps.getD k7 undef = x7 → a.tmps.getD k8 undef = x8 → ∀ b, Fr d v a b → G b := by
  intro hs hd h0 h1 h2 h3 h4 h5 h6 h7 h8 b F
  have e0 := frA e; replace e := frB e
  have e1 := frA e; replace e := frB e
  have e2 := frA e; replace e := frB e
  have e3 := frA e; replace e := frB e
  have e4 := frA e; replace e := frB e
  have e5 := frA e; replace e := frB e
  have e6 := frA e; replace e := frB e
  have e7 := frA e; replace e := frB e
  have e8 := frA e; replace e := frB e
  exact g b (F.z.trans hs) (F.e.trans hd) ((F.n _ e0).trans h0) ((F.n _ e1).trans h1) ((F.n _ e2).trans h2) ((F.n _ e3).trans h3) ((F.n _ e4).trans h4) ((F.n _ e5).trans h5) ((F.n _ e6).trans h6) ((F.n _ e7).trans h7) ((F.n _ e8).trans h8) F.s
theorem frN9 {a : Act} {d z k0 k1 k2 k3 k4 k5 k6 k7 k8 : Nat} {v x0 x1 x2 x3 x4 x5 x6 x7 x8 : Value} {y : List Deferred} {G : Act → Prop} (hs : a.tmps.size = z) (hd : a.defers = y) (h0 : a.tmps.getD k0 undef = x0) (h1 : a.tmps.getD k1 undef = x1) (h2 : a.tmps.getD k2 undef = x2) (h3 : a.tmps.getD k3 undef = x3) (h4 : a.tmps.getD k4 undef = x4) (h5 : a.tmps.getD k5 undef = x5) (h6 : a.tmps.getD k6 undef = x6) (h7 : a.tmps.getD k7 undef = x7) (h8 : a.tmps.getD k8 undef = x8) (g : ∀ b : Act, b.tmps.size = z → b.defers = y → b.tmps.getD k0 undef = x0 → b.tmps.getD k1 undef = x1 → b.tmps.getD k2 undef = x2 → b.tmps.getD k3 undef = x3 → b.tmps.getD k4 undef = x4 → b.tmps.getD k5 undef = x5 → b.tmps.getD k6 undef = x6 → b.tmps.getD k7 undef = x7 → b.tmps.getD k8 undef = x8 → b.tmps.getD d undef = v → G b) (e : (Nat.beq k0 d || (Nat.beq k1 d || (Nat.beq k2 d || (Nat.beq k3 d || (Nat.beq k4 d || (Nat.beq k5 d || (Nat.beq k6 d || (Nat.beq k7 d || (Nat.beq k8 d || false))))))))) = false := by rfl) : ∀ b, Fr d v a b → G b := frM9 g e hs hd h0 h1 h2 h3 h4 h5 h6 h7 h8
theorem frM10 {a : Act} {d z k0 k1 k2 k3 k4 k5 k6 k7 k8 k9 : Nat} {v x0 x1 x2 x3 x4 x5 x6 x7 x8 x9 : Value} {y : List Deferred} {G : Act → Prop} (g : ∀ b : Act, b.tmps.size = z → b.defers = y → b.tmps.getD k0 undef = x0 → b.tmps.getD k1 undef = x1 → b.tmps.getD k2 undef = x2 → b.tmps.getD k3 undef = x3 → b.tmps.getD k4 undef = x4 → b.tmps.getD k5 undef = x5 → b.tmps.getD k6 undef = x6 → b.tmps.getD k7 undef = x7 → b.tmps.getD k8 undef = x8 → b.tmps.getD k9 undef = x9 → b.tmps.getD d undef = v → G b) (e : (Nat.beq k0 d || (Nat.beq k1 d || (Nat.beq k2 d || (Nat.beq k3 d || (Nat.beq k4 d || (Nat.beq k5 d || (Nat.beq k6 d || (Nat.beq k7 d || (Nat.beq k8 d || (Nat.beq k9 d || false)))))))))) = false := by rfl) : a.tmps.size = z → a.defers = y → a.tmps.getD k0 undef = x0 → a.tmps.getD k1 undef = x1 → a.tmps.getD k2 undef = x2 → a.tmps.getD k3 undef = x3 → a.tmps.getD k4 undef = x4 → a.tmps.getD k5 undef = x5 → a.tmps.getD k6 undef = x6 → a.tmps.getD k7 undef = x7 → a.tmps.getD k8 undef = x8 → a.tmps.getD k9 undef = x9 → ∀ b, Fr d v a b → G b := by
  intro hs hd h0 h1 h2 h3 h4 h5 h6 h7 h8 h9 b F
  have e0 := frA e; replace e := frB e
  have e1 := frA e; replace e := frB e
  have e2 := frA e; replace e := frB e
  have e3 := frA e; replace e := frB e
  have e4 := frA e; replace e := frB e
  have e5 := frA e; replace e := frB e
  have e6 := frA e; replace e := frB e
  have e7 := frA e; replace e := frB e
  have e8 := frA e; replace e := frB e
  have e9 := frA e; replace e := frB e
  exact g b (F.z.trans hs) (F.e.trans hd) ((F.n _ e0).trans h0) ((F.n _ e1).trans h1) ((F.n _ e2).trans h2) ((F.n _ e3).trans h3) ((F.n _ e4).trans h4) ((F.n _ e5).trans h5) ((F.n _ e6).trans h6) ((F.n _ e7).trans h7) ((F.n _ e8).trans h8) ((F.n _ e9).trans h9) F.s
theorem frN10 {a : Act} {d z k0 k1 k2 k3 k4 k5 k6 k7 k8 k9 : Nat} {v x0 x1 x2 x3 x4 x5 x6 x7 x8 x9 : Value} {y : List Deferred} {G : Act → Prop} (hs : a.tmps.size = z) (hd : a.defers = y) (h0 : a.tmps.getD k0 undef = x0) (h1 : a.tmps.getD k1 undef = x1) (h2 : a.tmps.getD k2 undef = x2) (h3 : a.tmps.getD k3 undef = x3) (h4 : a.tmps.getD k4 undef = x4) (h5 : a.tmps.getD k5 undef = x5) (h6 : a.tmps.getD k6 undef = x6) (h7 : a.tmps.getD k7 undef = x7) (h8 : a.tmps.getD k8 undef = x8) (h9 : a.tmps.getD k9 undef = x9) (g : ∀ b : Act, b.tmps.size = z → b.defers = y → b.tmps.getD k0 undef = x0 → b.tmps.getD k1 undef = x1 → b.tmps.getD k2 undef = x2 → b.tmps.getD k3 undef = x3 → b.tmps.getD k4 undef = x4 → b.tmps.getD k5 undef = x5 → b.tmps.getD k6 undef = x6 → b.tmps.getD k7 undef = x7 → b.tmps.getD k8 undef = x8 → b.tmps.getD k9 undef = x9 → b.tmps.getD d undef = v → G b) (e : (Nat.beq k0 d || (Nat.beq k1 d || (Nat.beq k2 d || (Nat.beq k3 d || (Nat.beq k4 d || (Nat.beq k5 d || (Nat.beq k6 d || (Nat.beq k7 d || (Nat.beq k8 d || (Nat.beq k9 d || false)))))))))) = false := by rfl) : ∀ b, Fr d v a b → G b := frM10 g e hs hd h0 h1 h2 h3 h4 h5 h6 h7 h8 h9
theorem frM11 {a : Act} {d z k0 k1 k2 k3 k4 k5 k6 k7 k8 k9 k10 : Nat} {v x0 x1 x2 x3 x4 x5 x6 x7 x8 x9 x10 : Value} {y : List Deferred} {G : Act → Prop} (g : ∀ b : Act, b.tmps.size = z → b.defers = y → b.tmps.getD k0 undef = x0 → b.tmps.getD k1 undef = x1 → b.tmps.getD k2 undef = x2 → b.tmps.getD k3 undef = x3 → b.tmps.getD k4 undef = x4 → b.tmps.getD k5 undef = x5 → b.tmps.getD k6 undef = x6 → b.tmps.getD k7 undef = x7 → b.tmps.getD k8 undef = x8 → b.tmps.getD k9 undef = x9 → b.tmps.getD k10 undef = x10 → b.tmps.getD d undef = v → G b) (e : (Nat.beq k0 d || (Nat.beq k1 d || (Nat.beq k2 d || (Nat.beq k3 d || (Nat.beq k4 d || (Nat.beq k5 d || (Nat.beq k6 d || (Nat.beq k7 d || (Nat.beq k8 d || (Nat.beq k9 d || (Nat.beq k10 d || false))))))))))) = false := by rfl) : a.tmps.size = z → a.defers = y → a.tmps.getD k0 undef = x0 → a.tmps.getD k1 undef = x1 → a.tmps.getD k2 undef = x2 → a.tmps.getD k3 undef = x3 → a.tmps.getD k4 undef = x4 → a.tmps.getD k5 undef = x5 → a.tmps.getD k6 undef = x6 → a.tmps.getD k7 undef = x7 → a.tmps.getD k8 undef = x8 → a.tmps.getD k9 undef = x9 → a.tmps.getD k10 undef = x10 → ∀ b, Fr d v a b → G b := by
  intro hs hd h0 h1 h2 h3 h4 h5 h6 h7 h8 h9 h10 b F
  have e0 := frA e; replace e := frB e
  have e1 := frA e; replace e := frB e
  have e2 := frA e; replace e := frB e
  have e3 := frA e; replace e := frB e
  have e4 := frA e; replace e := frB e
  have e5 := frA e; replace e := frB e
  have e6 := frA e; replace e := frB e
  have e7 := frA e; replace e := frB e
  have e8 := frA e; replace e := frB e
  have e9 := frA e; replace e := frB e
  have e10 := frA e; replace e := frB e
  exact g b (F.z.trans hs) (F.e.trans hd) ((F.n _ e0).trans h0) ((F.n _ e1).trans h1) ((F.n _ e2).trans h2) ((F.n _ e3).trans h3) ((F.n _ e4).trans h4) ((F.n _ e5).trans h5) ((F.n _ e6).trans h6) ((F.n _ e7).trans h7) ((F.n _ e8).trans h8) ((F.n _ e9).trans h9) ((F.n _ e10).trans h10) F.s
theorem frN11 {a : Act} {d z k0 k1 k2 k3 k4 k5 k6 k7 k8 k9 k10 : Nat} {v x0 x1 x2 x3 x4 x5 x6 x7 x8 x9 x10 : Value} {y : List Deferred} {G : Act → Prop} (hs : a.tmps.size = z) (hd : a.defers = y) (h0 : a.tmps.getD k0 undef = x0) (h1 : a.tmps.getD k1 undef = x1) (h2 : a.tmps.getD k2 undef = x2) (h3 : a.tmps.getD k3 undef = x3) (h4 : a.tmps.getD k4 undef = x4) (h5 : a.tmps.getD k5 undef = x5) (h6 : a.tmps.getD k6 undef = x6) (h7 : a.tmps.getD k7 undef = x7) (h8 : a.tmps.getD k8 undef = x8) (h9 : a.tmps.getD k9 undef = x9) (h10 : a.tmps.getD k10 undef = x10) (g : ∀ b : Act, b.tmps.size = z → b.defers = y → b.tmps.getD k0 undef = x0 → b.tmps.getD k1 undef = x1 → b.tmps.getD k2 undef = x2 → b.tmps.getD k3 undef = x3 → b.tmps.getD k4 undef = x4 → b.tmps.getD k5 undef = x5 → b.tmps.getD k6 undef = x6 → b.tmps.getD k7 undef = x7 → b.tmps.getD k8 undef = x8 → b.tmps.getD k9 undef = x9 → b.tmps.getD k10 undef = x10 → b.tmps.getD d undef = v → G b) (e : (Nat.beq k0 d || (Nat.beq k1 d || (Nat.beq k2 d || (Nat.beq k3 d || (Nat.beq k4 d || (Nat.beq k5 d || (Nat.beq k6 d || (Nat.beq k7 d || (Nat.beq k8 d || (Nat.beq k9 d || (Nat.beq k10 d || false))))))))))) = false := by rfl) : ∀ b, Fr d v a b → G b := frM11 g e hs hd h0 h1 h2 h3 h4 h5 h6 h7 h8 h9 h10
theorem frM12 {a : Act} {d z k0 k1 k2 k3 k4 k5 k6 k7 k8 k9 k10 k11 : Nat} {v x0 x1 x2 x3 x4 x5 x6 x7 x8 x9 x10 x11 : Value} {y : List Deferred} {G : Act → Prop} (g : ∀ b : Act, b.tmps.size = z → b.defers = y → b.tmps.getD k0 undef = x0 → b.tmps.getD k1 undef = x1 → b.tmps.getD k2 undef = x2 → b.tmps.getD k3 undef = x3 → b.tmps.getD k4 undef = x4 → b.tmps.getD k5 undef = x5 → b.tmps.getD k6 undef = x6 → b.tmps.getD k7 undef = x7 → b.tmps.getD k8 undef = x8 → b.tmps.getD k9 undef = x9 → b.tmps.getD k10 undef = x10 → b.tmps.getD k11 undef = x11 → b.tmps.getD d undef = v → G b) (e : (Nat.beq k0 d || (Nat.beq k1 d || (Nat.beq k2 d || (Nat.beq k3 d || (Nat.beq k4 d || (Nat.beq k5 d || (Nat.beq k6 d || (Nat.beq k7 d || (Nat.beq k8 d || (Nat.beq k9 d || (Nat.beq k10 d || (Nat.beq k11 d || false)))))))))))) = false := by rfl) : a.tmps.size = z → a.defers = y → a.tmps.getD k0 undef = x0 → a.tmps.getD k1 undef = x1 → a.tmps.getD k2 undef = x2 → a.tmps.getD k3 undef = x3 → a.tmps.getD k4 undef = x4 → a.tmps.getD k5 undef = x5 → a.tmps.getD k6 undef = x6 → a.tmps.getD k7 undef = x7 → a.tmps.getD k8 undef = x8 → a.tmps.getD k9 undef = x9 → a.tmps.getD k10 undef = x10 → a.tmps.getD k11 undef = x11 → ∀ b, Fr d v a b → G b := by
  intro hs hd h0 h1 h2 h3 h4 h5 h6 h7 h8 h9 h10 h11 b F
  have e0 := frA e; replace e := frB e
  have e1 := frA e; replace e := frB e
  have e2 := frA e; replace e := frB e
  have e3 := frA e; replace e := frB e
  have e4 := frA e; replace e := frB e
  have e5 := frA e; replace e := frB e
  have e6 := frA e; replace e := frB e
  have e7 := frA e; replace e := frB e
  have e8 := frA e; replace e := frB e
  have e9 := frA e; replace e := frB e
  have e10 := frA e; replace e := frB e
  have e11 := frA e; replace e := frB e
  exact g b (F.z.trans hs) (F.e.trans hd) ((F.n _ e0).trans h0) ((F.n _ e1).trans h1) ((F.n _ e2).trans h2) ((F.n _ e3).trans h3) ((F.n _ e4).trans h4) ((F.n _ e5).trans h5) ((F.n _ e6).trans h6) ((F.n _ e7).trans h7) ((F.n _ e8).trans h8) ((F.n _ e9).trans h9) ((F.n _ e10).trans h10) ((F.n _ e11).trans h11) F.s
theorem frN12 {a : Act} {d z k0 k1 k2 k3 k4 k5 k6 k7 k8 k9 k10 k11 : Nat} {v x0 x1 x2 x3 x4 x5 x6 x7 x8 x9 x10 x11 : Value} {y : List Deferred} {G : Act → Prop} (hs : a.tmps.size = z) (hd : a.defers = y) (h0 : a.tmps.getD k0 undef = x0) (h1 : a.tmps.getD k1 undef = x1) (h2 : a.tmps.getD k2 undef = x2) (h3 : a.tmps.getD k3 undef = x3) (h4 : a.tmps.getD k4 undef = x4) (h5 : a.tmps.getD k5 undef = x5) (h6 : a.tmps.getD k6 undef = x6) (h7 : a.tmps.getD k7 undef = x7) (h8 : a.tmps.getD k8 undef = x8) (h9 : a.tmps.getD k9 undef = x9) (h10 : a.tmps.getD k10 undef = x10) (h11 : a.tmps.getD k11 undef = x11) (g : ∀ b : Act, b.tmps.size = z → b.defers = y → b.tmps.getD k0 undef = x0 → b.tmps.getD k1 undef = x1 → b.tmps.getD k2 undef = x2 → b.tmps.getD k3 undef = x3 → b.tmps.getD k4 undef = x4 → b.tmps.getD k5 undef = x5 → b.tmps.getD k6 undef = x6 → b.tmps.getD k7 undef = x7 → b.tmps.getD k8 undef = x8 → b.tmps.getD k9 undef = x9 → b.tmps.getD k10 undef = x10 → b.tmps.getD k11 undef = x11 → b.tmps.getD d undef = v → G b) (e : (Nat.beq k0 d || (Nat.beq k1 d || (Nat.beq k2 d || (Nat.beq k3 d || (Nat.beq k4 d || (Nat.beq k5 d || (Nat.beq k6 d || (Nat.beq k7 d || (Nat.beq k8 d || (Nat.beq k9 d || (Nat.beq k10 d || (Nat.beq k11 d || false)))))))))))) = false := by rfl) : ∀ b, Fr d v a b → G b := frM12 g e hs hd h0 h1 h2 h3 h4 h5 h6 h7 h8 h9 h10 h11
theorem frM13 {a : Act} {d z k0 k1 k2 k3 k4 k5 k6 k7 k8 k9 k10 k11 k12 : Nat} {v x0 x1 x2 x3 x4 x5 x6 x7 x8 x9 x10 x11 x12 : Value} {y : List Deferred} {G : Act → Prop} (g : ∀ b : Act, b.tmps.size = z → b.defers = y → b.tmps.getD k0 undef = x0 → b.tmps.getD k1 undef = x1 → b.tmps.getD k2 undef = x2 → b.tmps.getD k3 undef = x3 → b.tmps.getD k4 undef = x4 → b.tmps.getD k5 undef = x5 → b.tmps.getD k6 undef = x6 → b.tmps.getD k7 undef = x7 → b.tmps.getD k8 undef = x8 → b.tmps.getD k9 undef = x9 → b.tmps.getD k10 undef = x10 → b.tmps.getD k11 undef = x11 → b.tmps.getD k12 undef = x12 → b.tmps.getD d undef = v → G b) (e : (Nat.beq k0 d || (Nat.beq k1 d || (Nat.beq k2 d || (Nat.beq k3 d || (Nat.beq k4 d || (Nat.beq k5 d || (Nat.beq k6 d || (Nat.beq k7 d || (Nat.beq k8 d || (Nat.beq k9 d || (Nat.beq k10 d || (Nat.beq k11 d || (Nat.beq k12 d || false))))))))))))) = false := by rfl) : a.tmps.size = z → a.defers = y → a.tmps.getD k0 undef = x0 → a.tmps.getD k1 undef = x1 → a.tmps.getD k2 undef = x2 → a.tmps.getD k3 undef = x3 → a.tmps.getD k4 undef = x4 → a.tmps.getD k5 undef = x5 → a.tmps.getD k6 undef = x6 → a.tmps.getD k7 undef = x7 → a.tmps.getD k8 undef = x8 → a.tmps.getD k9 undef = x9 → a.tmps.getD k10 undef = x10 → a.tmps.getD k11 undef = x11 → a.tmps.getD k12 undef = x12 → ∀ b, Fr d v a b → G b := by
  intro hs hd h0 h1 h2 h3 h4 h5 h6 h7 h8 h9 h10 h11 h12 b F
  have e0 := frA e; replace e := frB e
  have e1 := frA e; replace e := frB e
  have e2 := frA e; replace e := frB e
  have e3 := frA e; replace e := frB e
  have e4 := frA e; replace e := frB e
  have e5 := frA e; replace e := frB e
  have e6 := frA e; replace e := frB e
  have e7 := frA e; replace e := frB e
  have e8 := frA e; replace e := frB e
  have e9 := frA e; replace e := frB e
  have e10 := frA e; replace e := frB e
  have e11 := frA e; replace e := frB e
  have e12 := frA e; replace e := frB e
  exact g b (F.z.trans hs) (F.e.trans hd) ((F.n _ e0).trans h0) ((F.n _ e1).trans h1) ((F.n _ e2).trans h2) ((F.n _ e3).trans h3) ((F.n _ e4).trans h4) ((F.n _ e5).trans h5) ((F.n _ e6).trans h6) ((F.n _ e7).trans h7) ((F.n _ e8).trans h8) ((F.n _ e9).trans h9) ((F.n _ e10).trans h10) ((F.n _ e11).trans h11) ((F.n _ e12).trans h12) F.s
theorem frN13 {a : Act} {d z k0 k1 k2 k3 k4 k5 k6 k7 k8 k9 k10 k11 k12 : Nat} {v x0 x1 x2 x3 x4 x5 x6 x7 x8 x9 x10 x11 x12 : Value} {y : List Deferred} {G : Act → Prop} (hs : a.tmps.size = z) (hd : a.defers = y) (h0 : a.tmps.getD k0 undef = x0) (h1 : a.tmps.getD k1 undef = x1) (h2 : a.tmps.getD k2 undef = x2) (h3 : a.tmps.getD k3 undef = x3) (h4 : a.tmps.getD k4 undef = x4) (h5 : a.tmps.getD k5 undef = x5) (h6 : a.tmps.getD k6 undef = x6) (h7 : a.tmps.getD k7 undef = x7) (h8 : a.tmps.getD k8 undef = x8) (h9 : a.tmps.getD k9 undef = x9) (h10 : a.tmps.getD k10 undef = x10) (h11 : a.tmps.getD k11 undef = x11) (h12 : a.tmps.getD k12 undef = x12) (g : ∀ b : Act, b.tmps.size = z → b.defers = y → b.tmps.getD k0 undef = x0 → b.tmps.getD k1 undef = x1 → b.tmps.getD k2 undef = x2 → b.tmps.getD k3 undef = x3 → b.tmps.getD k4 undef = x4 → b.tmps.getD k5 undef = x5 → b.tmps.getD k6 undef = x6 → b.tmps.getD k7 undef = x7 → b.tmps.getD k8 undef = x8 → b.tmps.getD k9 undef = x9 → b.tmps.getD k10 undef = x10 → b.tmps.getD k11 undef = x11 → b.tmps.getD k12 undef = x12 → b.tmps.getD d undef = v → G b) (e : (Nat.beq k0 d || (Nat.beq k1 d || (Nat.beq k2 d || (Nat.beq k3 d || (Nat.beq k4 d || (Nat.beq k5 d || (Nat.beq k6 d || (Nat.beq k7 d || (Nat.beq k8 d || (Nat.beq k9 d || (Nat.beq k10 d || (Nat.beq k11 d || (Nat.beq k12 d || false))))))))))))) = false := by rfl) : ∀ b, Fr d v a b → G b := frM13 g e hs hd h0 h1 h2 h3 h4 h5 h6 h7 h8 h9 h10 h11 h12
theorem frM14 {a : Act} {d z k0 k1 k2 k3 k4 k5 k6 k7 k8 k9 k10 k11 k12 k13 : Nat} {v x0 x1 x2 x3 x4 x5 x6 x7 x8 x9 x10 x11 x12 x13 : Value} {y : List Deferred} {G : Act → Prop} (g : ∀ b : Act, b.tmps.size = z → b.defers = y → b.tmps.getD k0 undef = x0 → b.tmps.getD k1 undef = x1 → b.tmps.getD k2 undef = x2 → b.tmps.getD k3 undef = x3 → b.tmps.getD k4 undef = x4 → b.tmps.getD k5 undef = x5 → b.tmps.getD k6 undef = x6 → b.tmps.getD k7 undef = x7 → b.tmps.getD k8 undef = x8 → b.tmps.getD k9 undef = x9 → b.tmps.getD k10 undef = x10 → b.tmps.getD k11 undef = x11 → b.tmps.getD k12 undef = x12 → b.tmps.getD k13 undef = x13 → b.tmps.getD d undef = v → G b) (e : (Nat.beq k0 d || (Nat.beq k1 d || (Nat.beq k2 d || (Nat.beq k3 d || (Nat.beq k4 d || (Nat.beq k5 d || (Nat.beq k6 d || (Nat.beq k7 d || (Nat.beq k8 d || (Nat.beq k9 d || (Nat.beq k10 d || (Nat.beq k11 d || (Nat.beq k12 d || (Nat.beq k13 d || false)))))))))))))) = false := by rfl) : a.tmps.size = z → a.defers = y → a.tmps.getD k0 undef = x0 → a.tmps.getD k1 undef = x1 → a.tmps.getD k2 undef = x2 → a.tmps.getD k3 undef = x3 → a.tmps.getD k4 undef = x4 → a.tmps.getD k5 undef = x5 → a.tmps.getD k6 undef = x6 → a.tmps.getD k7 undef = x7 → a.tmps.getD k8 undef = x8 → a.tmps.getD k9 undef = x9 → a.tmps.getD k10 undef = x10 → a.tmps.getD k11 undef = x11 → a.tmps.getD k12 undef = x12 → a.tmps.getD k13 undef = x13 → ∀ b, Fr d v a b → G b := by
  intro hs hd h0 h1 h2 h3 h4 h5 h6 h7 h8 h9 h10 h11 h12 h13 b F
  have e0 := frA e; replace e := frB e
  have e1 := frA e; replace e := frB e
  have e2 := frA e; replace e := frB e
  have e3 := frA e; replace e := frB e
  have e4 := frA e; replace e := frB e
  have e5 := frA e; replace e := frB e
  have e6 := frA e; replace e := frB e
  have e7 := frA e; replace e := frB e
  have e8 := frA e; replace e := frB e
  have e9 := frA e; replace e := frB e
  have e10 := frA e; replace e := frB e
  have e11 := frA e; replace e := frB e
  have e12 := frA e; replace e := frB e
  have e13 := frA e; replace e := frB e
  exact g b (F.z.trans hs) (F.e.trans hd) ((F.n _ e0).trans h0) ((F.n _ e1).trans h1) ((F.n _ e2).trans h2) ((F.n _ e3).trans h3) ((F.n _ e4).trans h4) ((F.n _ e5).trans h5) ((F.n _ e6).trans h6) ((F.n _ e7).trans h7) ((F.n _ e8).trans h8) ((F.n _ e9).trans h9) ((F.n _ e10).trans h10) ((F.n _ e11).trans h11) ((F.n _ e12).trans h12) ((F.n _ e13).trans h13) F.s
theorem frN14 {a : Act} {d z k0 k1 k2 k3 k4 k5 k6 k7 k8 k9 k10 k11 k12 k13 : Nat} {v x0 x1 x2 x3 x4 x5 x6 x7 x8 x9 x10 x11 x12 x13 : Value} {y : List Deferred} {G : Act → Prop} (hs : a.tmps.size = z) (hd : a.defers = y) (h0 : a.tmps.getD k0 undef = x0) (h1 : a.tmps.getD k1 undef = x1) (h2 : a.tmps.getD k2 undef = x2) (h3 : a.tmps.getD k3 undef = x3) (h4 : a.tmps.getD k4 undef = x4) (h5 : a.tmps.getD k5 undef = x5) (h6 : a.tmps.getD k6 undef = x6) (h7 : a.tmps.getD k7 undef = x7) (h8 : a.tmps.getD k8 undef = x8) (h9 : a.tmps.getD k9 undef = x9) (h10 : a.tmps.getD k10 undef = x10) (h11 : a.tmps.getD k11 undef = x11) (h12 : a.tmps.getD k12 undef = x12) (h13 : a.tmps.getD k13 undef = x13) (g : ∀ b : Act, b.tmps.size = z → b.defers = y → b.tmps.getD k0 undef = x0 → b.tmps.getD k1 undef = x1 → b.tmps.getD k2 undef = x2 → b.tmps.getD k3 undef = x3 → b.tmps.getD k4 undef = x4 → b.tmps.getD k5 undef = x5 → b.tmps.getD k6 undef = x6 → b.tmps.getD k7 undef = x7 → b.tmps.getD k8 undef = x8 → b.tmps.getD k9 undef = x9 → b.tmps.getD k10 undef = x10 → b.tmps.getD k11 undef = x11 → b.tmps.getD k12 undef = x12 → b.tmps.getD k13 undef = x13 → b.tmps.getD d undef = v → G b) (e : (Nat.beq k0 d || (Nat.beq k1 d || (Nat.beq k2 d || (Nat.beq k3 d || (Nat.beq k4 d || (Nat.beq k5 d || (Nat.beq k6 d || (Nat.beq k7 d || (Nat.beq k8 d || (Nat.beq k9 d || (Nat.beq k10 d || (Nat.beq k11 d || (Nat.beq k12 d || (Nat.beq k13 d || false)))))))))))))) = false := by rfl) : ∀ b, Fr d v a b → G b := frM14 g e hs hd h0 h1 h2 h3 h4 h5 h6 h7 h8 h9 h10 h11 h12 h13
theorem frM15 {a : Act} {d z k0 k1 k2 k3 k4 k5 k6 k7 k8 k9 k10 k11 k12 k13 k14 : Nat} {v x0 x1 x2 x3 x4 x5 x6 x7 x8 x9 x10 x11 x12 x13 x14 : Value} {y : List Deferred} {G : Act → Prop} (g : ∀ b : Act, b.tmps.size = z → b.defers = y → b.tmps.getD k0 undef = x0 → b.tmps.getD k1 undef = x1 → b.tmps.getD k2 undef = x2 → b.tmps.getD k3 undef = x3 → b.tmps.getD k4 undef = x4 → b.tmps.getD k5 undef = x5 → b.tmps.getD k6 undef = x6 → b.tmps.getD k7 undef = x7 → b.tmps.getD k8 undef = x8 → b.tmps.getD k9 undef = x9 → b.tmps.getD k10 undef = x10 → b.tmps.getD k11 undef = x11 → b.tmps.getD k12 undef = x12 → b.tmps.getD k13 undef = x13 → b.tmps.getD k14 undef = x14 → b.tmps.getD d undef = v → G b) (e : (Nat.beq k0 d || (Nat.beq k1 d || (Nat.beq k2 d || (Nat.beq k3 d || (Nat.beq k4 d || (Nat.beq k5 d || (Nat.beq k6 d || (Nat.beq k7 d || (Nat.beq k8 d || (Nat.beq k9 d || (Nat.beq k10 d || (Nat.beq k11 d || (Nat.beq k12 d || (Nat.beq k13 d || (Nat.beq k14 d || false))))))))))))))) = false := by rfl) : a.tmps.size = z → a.defers = y → a.tmps.getD k0 undef = x0 → a.tmps.getD k1 undef = x1 → a.tmps.getD k2 undef = x2 → a.tmps.getD k3 undef = x3 → a.tmps.getD k4 undef = x4 → a.tmps.getD k5 undef = x5 → a.tmps.getD k6 undef = x6 → a.tmps.getD k7 undef = x7 → a.tmps.getD k8 undef = x8 → a.tmps.getD k9 undef = x9 → a.tmps.getD k10 undef = x10 → a.tmps.getD k11 undef = x11 → a.tmps.getD k12 undef = x12 → a.tmps.getD k13 undef = x13 → a.tmps.getD k14 undef = x14 → ∀ b, Fr d v a b → G b := by
  intro hs hd h0 h1 h2 h3 h4 h5 h6 h7 h8 h9 h10 h11 h12 h13 h14 b F
  have e0 := frA e; replace e := frB e
  have e1 := frA e; replace e := frB e
  have e2 := frA e; replace e := frB e
  have e3 := frA e; replace e := frB e
  have e4 := frA e; replace e := frB e
  have e5 := frA e; replace e := frB e
  have e6 := frA e; replace e := frB e
  have e7 := frA e; replace e := frB e
  have e8 := frA e; replace e := frB e
  have e9 := frA e; replace e := frB e
  have e10 := frA e; replace e := frB e
  have e11 := frA e; replace e := frB e
  have e12 := frA e; replace e := frB e
  have e13 := frA e; replace e := frB e
  have e14 := frA e; replace e := frB e
  exact g b (F.z.trans hs) (F.e.trans hd) ((F.n _ e0).trans h0) ((F.n _ e1).trans h1) ((F.n _ e2).trans h2) ((F.n _ e3).trans h3) ((F.n _ e4).trans h4) ((F.n _ e5).trans h5) ((F.n _ e6).trans h6) ((F.n _ e7).trans h7) ((F.n _ e8).trans h8) ((F.n _ e9).trans h9) ((F.n _ e10).trans h10) ((F.n _ e11).trans h11) ((F.n _ e12).trans h12) ((F.n _ e13).trans h13) ((F.n _ e14).trans h14) F.s
theorem frN15 {a : Act} {d z k0 k1 k2 k3 k4 k5 k6 k7 k8 k9 k10 k11 k12 k13 k14 : Nat} {v x0 x1 x2 x3 x4 x5 x6 x7 x8 x9 x10 x11 x12 x13 x14 : Value} {y : List Deferred} {G : Act → Prop} (hs : a.tmps.size = z) (hd : a.defers = y) (h0 : a.tmps.getD k0 undef = x0) (h1 : a.tmps.getD k1 undef = x1) (h2 : a.tmps.getD k2 undef = x2) (h3 : a.tmps.getD k3 undef = x3) (h4 : a.tmps.getD k4 undef = x4) (h5 : a.tmps.getD k5 undef = x5) (h6 : a.tmps.getD k6 undef = x6) (h7 : a.tmps.getD k7 undef = x7) (h8 : a.tmps.getD k8 undef = x8) (h9 : a.tmps.getD k9 undef = x9) (h10 : a.tmps.getD k10 undef = x10) (h11 : a.tmps.getD k11 undef = x11) (h12 : a.tmps.getD k12 undef = x12) (h13 : a.tmps.getD k13 undef = x13) (h14 : a.tmps.getD k14 undef = x14) (g : ∀ b : Act, b.tmps.size = z → b.defers = y → b.tmps.getD k0 undef = x0 → b.tmps.getD k1 undef = x1 → b.tmps.getD k2 undef = x2 → b.tmps.getD k3 undef = x3 → b.tmps.getD k4 undef = x4 → b.tmps.getD k5 undef = x5 → b.tmps.getD k6 undef = x6 → b.tmps.getD k7 undef = x7 → b.tmps.getD k8 undef = x8 → b.tmps.getD k9 undef = x9 → b.tmps.getD k10 undef = x10 → b.tmps.getD k11 undef = x11 → b.tmps.getD k12 undef = x12 → b.tmps.getD k13 undef = x13 → b.tmps.getD k14 undef = x14 → b.tmps.getD d undef = v → G b) (e : (Nat.beq k0 d || (Nat.beq k1 d || (Nat.beq k2 d || (Nat.beq k3 d || (Nat.beq k4 d || (Nat.beq k5 d || (Nat.beq k6 d || (Nat.beq k7 d || (Nat.beq k8 d || (Nat.beq k9 d || (Nat.beq k10 d || (Nat.beq k11 d || (Nat.beq k12 d || (Nat.beq k13 d || (Nat.beq k14 d || false))))))))))))))) = false := by rfl) : ∀ b, Fr d v a b → G b := frM15 g e hs hd h0 h1 h2 h3 h4 h5 h6 h7 h8 h9 h10 h11 h12 h13 h14
theorem frM16 {a : Act} {d z k0 k1 k2 k3 k4 k5 k6 k7 k8 k9 k10 k11 k12 k13 k14 k15 : Nat} {v x0 x1 x2 x3 x4 x5 x6 x7 x8 x9 x10 x11 x12 x13 x14 x15 : Value} {y : List Deferred} {G : Act → Prop} (g : ∀ b : Act, b.tmps.size = z → b.defers = y → b.tmps.getD k0 undef = x0 → b.tmps.getD k1 undef = x1 → b.tmps.getD k2 undef = x2 → b.tmps.getD k3 undef = x3 → b.tmps.getD k4 undef = x4 → b.tmps.getD k5 undef = x5 → b.tmps.getD k6 undef = x6 → b.tmps.getD k7 undef = x7 → b.tmps.getD k8 undef = x8 → b.tmps.getD k9 undef = x9 → b.tmps.getD k10 undef = x10 → b.tmps.getD k11 undef = x11 → b.tmps.getD k12 undef = x12 → b.tmps.getD k13 undef = x13 → b.tmps.getD k14 undef = x14 → b.tmps.getD k15 undef = x15 → b.tmps.getD d undef = v → G b) (e : (Nat.beq k0 d || (Nat.beq k1 d || (Nat.beq k2 d || (Nat.beq k3 d || (Nat.beq k4 d || (Nat.beq k5 d || (Nat.beq k6 d || (Nat.beq k7 d || (Nat.beq k8 d || (Nat.beq k9 d || (Nat.beq k10 d || (Nat.beq k11 d || (Nat.beq k12 d || (Nat.beq k13 d || (Nat.beq k14 d || (Nat.beq k15 d || false)))))))))))))))) = false := by rfl) : a.tmps.size = z → a.defers = y → a.tmps.getD k0 undef = x0 → a.tmps.getD k1 undef = x1 → a.tmps.getD k2 undef = x2 → a.tmps.getD k3 undef = x3 → a.tmps.getD k4 undef = x4 → a.tmps.getD k5 undef = x5 → a.tmps.getD k6 undef = x6 → a.tmps.getD k7 undef = x7 → a.tmps.getD k8 undef = x8 → a.tmps.getD k9 undef = x9 → a.tmps.getD k10 undef = x10 → a.tmps.getD k11 undef = x11 → a.tmps.getD k12 undef = x12 → a.tmps.getD k13 undef = x13 → a.tmps.getD k14 undef = x14 → a.tmps.getD k15 undef = x15 → ∀ b, Fr d v a b → G b := by
  intro hs hd h0 h1 h2 h3 h4 h5 h6 h7 h8 h9 h10 h11 h12 h13 h14 h15 b F
  have e0 := frA e; replace e := frB e
  have e1 := frA e; replace e := frB e
  have e2 := frA e; replace e := frB e
  have e3 := frA e; replace e := frB e
  have e4 := frA e; replace e := frB e
  have e5 := frA e; replace e := frB e
  have e6 := frA e; replace e := frB e
  have e7 := frA e; replace e := frB e
  have e8 := frA e; replace e := frB e
  have e9 := frA e; replace e := frB e
  have e10 := frA e; replace e := frB e
  have e11 := frA e; replace e := frB e
  have e12 := frA e; replace e := frB e
  have e13 := frA e; replace e := frB e
  have e14 := frA e; replace e := frB e
  have e15 := frA e; replace e := frB e
  exact g b (F.z.trans hs) (F.e.trans hd) ((F.n _ e0).trans h0) ((F.n _ e1).trans h1) ((F.n _ e2).trans h2) ((F.n _ e3).trans h3) ((F.n _ e4).trans h4) ((F.n _ e5).trans h5) ((F.n _ e6).trans h6) ((F.n _ e7).trans h7) ((F.n _ e8).trans h8) ((F.n _ e9).trans h9) ((F.n _ e10).trans h10) ((F.n _ e11).trans h11) ((F.n _ e12).trans h12) ((F.n _ e13).trans h13) ((F.n _ e14).trans h14) ((F.n _ e15).trans h15) F.s
theorem frN16 {a : Act} {d z k0 k1 k2 k3 k4 k5 k6 k7 k8 k9 k10 k11 k12 k13 k14 k15 : Nat} {v x0 x1 x2 x3 x4 x5 x6 x7 x8 x9 x10 x11 x12 x13 x14 x15 : Value} {y : List Deferred} {G : Act → Prop} (hs : a.tmps.size = z) (hd : a.defers = y) (h0 : a.tmps.getD k0 undef = x0) (h1 : a.tmps.getD k1 undef = x1) (h2 : a.tmps.getD k2 undef = x2) (h3 : a.tmps.getD k3 undef = x3) (h4 : a.tmps.getD k4 undef = x4) (h5 : a.tmps.getD k5 undef = x5) (h6 : a.tmps.getD k6 undef = x6) (h7 : a.tmps.getD k7 undef = x7) (h8 : a.tmps.getD k8 undef = x8) (h9 : a.tmps.getD k9 undef = x9) (h10 : a.tmps.getD k10 undef = x10) (h11 : a.tmps.getD k11 undef = x11) (h12 : a.tmps.getD k12 undef = x12) (h13 : a.tmps.getD k13 undef = x13) (h14 : a.tmps.getD k14 undef = x14) (h15 : a.tmps.getD k15 undef = x15) (g : ∀ b : Act, b.tmps.size = z → b.defers = y → b.tmps.getD k0 undef = x0 → b.tmps.getD k1 undef = x1 → b.tmps.getD k2 undef = x2 → b.tmps.getD k3 undef = x3 → b.tmps.getD k4 undef = x4 → b.tmps.getD k5 undef = x5 → b.tmps.getD k6 undef = x6 → b.tmps.getD k7 undef = x7 → b.tmps.getD k8 undef = x8 → b.tmps.getD k9 undef = x9 → b.tmps.getD k10 undef = x10 → b.tmps.getD k11 undef = x11 → b.tmps.getD k12 undef = x12 → b.tmps.getD k13 undef = x13 → b.tmps.getD k14 undef = x14 → b.tmps.getD k15 undef = x15 → b.tmps.getD d undef = v → G b) (e : (Nat.beq k0 d || (Nat.beq k1 d || (Nat.beq k2 d || (Nat.beq k3 d || (Nat.beq k4 d || (Nat.beq k5 d || (Nat.beq k6 d || (Nat.beq k7 d || (Nat.beq k8 d || (Nat.beq k9 d || (Nat.beq k10 d || (Nat.beq k11 d || (Nat.beq k12 d || (Nat.beq k13 d || (Nat.beq k14 d || (Nat.beq k15 d || false)))))))))))))))) = false := by rfl) : ∀ b, Fr d v a b → G b := frM16 g e hs hd h0 h1 h2 h3 h4 h5 h6 h7 h8 h9 h10 h11 h12 h13 h14 h15
end Go.Proofs.YtkcolbeemmnolaaGreatDoor
/-
  What is known of a frame, in one fact: how many slots, what is deferred, some slots' values.
-/
namespace Go.Proofs.YtkcolbeemmnolaaGreatDoor
open Go.RowKit
def AllK (a : Act) : List (Nat × Value) → Prop
  | [] => True
  | (t, v) :: L => a.tmps.getD t undef = v ∧ AllK a L
structure Know (N : Nat) (df : List Deferred) (a : Act) (L : List (Nat × Value)) : Prop where
  z : a.tmps.size = N
  d : a.defers = df
  k : AllK a L
/-- a slot's value -/
def lk (t : Nat) : List (Nat × Value) → Option Value
  | [] => none
  | (u, v) :: L => bif Nat.beq t u then some v else lk t L
def fresh (t : Nat) : List (Nat × Value) → Bool
  | [] => true
  | (u, _) :: L => bif Nat.beq u t then false else fresh t L
def pickL : List Nat → List (Nat × Value) → Option (List (Nat × Value))
  | [], _ => some []
  | t :: ts, L => match lk t L, pickL ts L with
    | some v, some M => some ((t, v) :: M)
    | _, _ => none
section
variable {N : Nat} {df : List Deferred} {a : Act} {L : List (Nat × Value)} {v : Value}
theorem AllK.g : ∀ {L : List (Nat × Value)} {t : Nat}, AllK a L → lk t L = some v → a.tmps.getD t undef = v
  | [], _, _, e => by cases e
  | (u, x) :: L, t, h, e => by
    unfold lk at e
    cases hb : Nat.beq t u with
    | true =>
      rw [hb] at e
      obtain rfl : x = v := Option.some.inj e
      rw [Nat.eq_of_beq_eq_true hb]
      exact h.1
    | false =>
      rw [hb] at e
      exact AllK.g h.2 e
theorem Know.g (h : Know N df a L) (t : Nat) (e : lk t L = some v) : a.tmps.getD t undef = v := h.k.g e
theorem Know.e (h : Know N df a L) (t : Nat) (e : lk t L = some v) : a.eval (.tmp t) = v := ev_tmp (h.g t e)
theorem Know.p (h : Know N df a L) {t : Nat} (e : a.tmps.getD t undef = v) : Know N df a ((t, v) :: L) := ⟨h.z, h.d, e, h.k⟩
theorem kn (hs : a.tmps.size = N) (hd : a.defers = df) : Know N df a [] := ⟨hs, hd, trivial⟩
theorem AllK.pick : ∀ {ts : List Nat} {M : List (Nat × Value)}, AllK a L → pickL ts L = some M → AllK a M
  | [], M, _, e => by obtain rfl := Option.some.inj e; exact trivial
  | t :: ts, M, h, e => by
    unfold pickL at e
    split at e
    · rename_i v M' e1 e2
      obtain rfl := Option.some.inj e
      exact ⟨h.g e1, AllK.pick h e2⟩
    · cases e
theorem Know.keep (h : Know N df a L) (ts : List Nat) {M : List (Nat × Value)} (e : pickL ts L = some M) : Know N df a M := ⟨h.z, h.d, h.k.pick e⟩
theorem AllK.fr {b : Act} {d : Nat} (F : Fr d v a b) : ∀ {L : List (Nat × Value)}, AllK a L → fresh d L = true → AllK b L
  | [], _, _ => trivial
  | (u, x) :: L, h, e => by
    unfold fresh at e
    cases hb : Nat.beq u d with
    | true => rw [hb] at e; cases e
    | false =>
      rw [hb] at e
      exact ⟨(F.n u (fun e' => by rw [e', Nat.beq_refl] at hb; cases hb)).trans h.1, AllK.fr F h.2 e⟩
theorem Know.fr {b : Act} {d : Nat} (F : Fr d v a b) (h : Know N df a L) (e : fresh d L = true) : Know N df b ((d, v) :: L) := ⟨F.z.trans h.z, F.e.trans h.d, F.s, h.k.fr F e⟩
end
section
variable {P : Program} {ops : Array Oper} {Q : Exit → Act → World → Prop} {a : Act} {w w' : World} {v : Value} {N : Nat} {df : List Deferred} {L : List (Nat × Value)}
def upto : Nat → Nat → List Nat
  | _, 0 => []
  | i, n + 1 => i :: upto (i + 1) n
theorem upto_range : ∀ (n i : Nat), List.range' i n = upto i n
  | 0, _ => rfl
  | n + 1, i => by
    rw [List.range'_succ, upto_range n (i + 1)]
    rfl
/-- a plain region of n operations -/
theorem wpr (n : Nat) {id : Nat} (h : wpOps P ops Q (upto 0 n) a w) (hn : ops.size = n := by rfl) : (Code.region id ops false).wp P Q a w := by
  refine wp_region ?_
  rw [hn, List.range_eq_range', upto_range]
  exact h
theorem frX {x : Oper} {u : Oper → Bool} {b : Bool} (e : u x = b) : ∀ o, some x = some o → u o = b := by rintro o ⟨⟩; exact e
/-- one that is passed over -/
theorem opkn (i d : Nat) {rest : List Nat} (hk : Know N df a L) (hy : ∀ o, ops[i]? = some o → Region.wanted o (yielded ops a.tmps) = false)
    (h : ∀ a' : Act, Know N df a' ((d, undef) :: L) → wpOps P ops Q rest a' w) (hd : (ops[i]?).map (·.dst) = some (some d) := by kernel_rfl) (hz : Nat.ble (d + 1) N = true := by rfl) (hf : fresh d L = true := by rfl) : wpOps P ops Q (i :: rest) a w :=
  opL_not i d hd (by rw [hk.z]; exact Nat.le_of_ble_eq_true hz) hy (fun a' F => h a' (Know.fr F hk hf))
/-- an operation that yields -/
theorem opk (i d : Nat) {rest : List Nat} (hk : Know N df a L) (hy : ∀ o, ops[i]? = some o → Region.wanted o (yielded ops a.tmps) = true ∧ (execOp a.eval o).run P w = .ok (.value v) w')
    (h : ∀ a' : Act, Know N df a' ((d, v) :: L) → wpOps P ops Q rest a' w') (hd : (ops[i]?).map (·.dst) = some (some d) := by kernel_rfl) (hz : Nat.ble (d + 1) N = true := by rfl) (hf : fresh d L = true := by rfl) : wpOps P ops Q (i :: rest) a w :=
  opL i d hd (by rw [hk.z]; exact Nat.le_of_ble_eq_true hz) hy (fun a' F => h a' (Know.fr F hk hf))
/-- a call -/
theorem opkc (i d : Nat) {rest : List Nat} {f : FuncId} {args : Array Value} {R : Value → World → Prop} (hk : Know N df a L) (hc : Calls P f args w fun e w' => ∃ v, e = .returned v ∧ R v w')
    (hy : ∀ o, ops[i]? = some o → Region.wanted o (yielded ops a.tmps) = true ∧ (execOp a.eval o).run P w = .ok (.enter f args) w)
    (h : ∀ (v : Value) (w' : World) (a' : Act), R v w' → Know N df a' ((d, v) :: L) → wpOps P ops Q rest a' w') (hd : (ops[i]?).map (·.dst) = some (some d) := by kernel_rfl) (hz : Nat.ble (d + 1) N = true := by rfl) (hf : fresh d L = true := by rfl) : wpOps P ops Q (i :: rest) a w :=
  opL_call i d hd (by rw [hk.z]; exact Nat.le_of_ble_eq_true hz) hy hc (fun v w' a' hR F => h v w' a' hR (Know.fr F hk hf))
end
end Go.Proofs.YtkcolbeemmnolaaGreatDoor
/-
  A rule in memory; the operations that load it and call Check and the law's Check.
-/
namespace Go.Proofs.YtkcolbeemmnolaaGreatDoor
open Go.RowKit
/-- a rule lies at block b -/
structure RuleAt (w : World) (b : Nat) (f iv c u : Int) (sM sD sW sP : Value) : Prop where
  lt : b < w.heap.size
  c0 : w.cell? ⟨b, 0, none⟩ = some (.int .i64 f)
  c1 : w.cell? ⟨b, 1, none⟩ = some (.int .i64 iv)
  c2 : w.cell? ⟨b, 2, none⟩ = some (.int .i64 c)
  c3 : w.cell? ⟨b, 3, none⟩ = some (.int .i64 u)
  c4 : w.cell? ⟨b, 4, none⟩ = some sM
  c5 : w.cell? ⟨b, 5, none⟩ = some sD
  c6 : w.cell? ⟨b, 6, none⟩ = some sW
  c7 : w.cell? ⟨b, 7, none⟩ = some sP
theorem RuleAt.below {w w' : World} {b : Nat} {f iv c u : Int} {sM sD sW sP : Value} (h : RuleAt w b f iv c u sM sD sW sP) (hb : Below w.heap.size w w') : RuleAt w' b f iv c u sM sD sW sP :=
  ⟨Nat.lt_of_lt_of_le h.lt hb.size, (hb.cell (p := ⟨b, 0, none⟩) h.lt).trans h.c0, (hb.cell (p := ⟨b, 1, none⟩) h.lt).trans h.c1, (hb.cell (p := ⟨b, 2, none⟩) h.lt).trans h.c2, (hb.cell (p := ⟨b, 3, none⟩) h.lt).trans h.c3,
   (hb.cell (p := ⟨b, 4, none⟩) h.lt).trans h.c4, (hb.cell (p := ⟨b, 5, none⟩) h.lt).trans h.c5, (hb.cell (p := ⟨b, 6, none⟩) h.lt).trans h.c6, (hb.cell (p := ⟨b, 7, none⟩) h.lt).trans h.c7⟩
section
variable {w : World} {ρ : Operand → Value} {o : Oper} {x y : Operand} {b : Nat} {v : Value}
theorem k_loadR {f iv c u : Int} {sM sD sW sP : Value} (ho : o.op = .load 36 x) (hx : ρ x = .pointer (some ⟨b, 0, none⟩)) (h : RuleAt w b f iv c u sM sD sW sP) :
    (execOp ρ o).run Tryz.prog w = .ok (.value (.agg #[.int .i64 f, .int .i64 iv, .int .i64 c, .int .i64 u, sM, sD, sW, sP])) w := by
  obtain ⟨-, c0, c1, c2, c3, c4, c5, c6, c7⟩ := h
  simp only [execOp, ho, hx]
  go_simp
theorem k_callCheck (ho : o.op = .call ⟨.value (.func 83), #[x], #[36]⟩) (hf : ρ (.func 83) = .func (.func 83) #[] #[]) (hx : ρ x = v) : (execOp ρ o).run Tryz.prog w = .ok (.enter 83 #[v]) w := by
  simp only [execOp, ho]
  go_simp
theorem k_eqE {n m : Int} {r : Bool} (ho : o.op = .binOp .eql 90 x y 90) (hx : ρ x = .int .i64 n) (hy : ρ y = .int .i64 m) (hr : (n == m) = r) : (execOp ρ o).run Tryz.prog w = .ok (.value (.bool r)) w := by
  subst hr
  simp only [execOp, ho, hx, hy]
  go_simp
theorem k_assign (ho : o.op = .assign x) (hx : ρ x = v) : (execOp ρ o).run Tryz.prog w = .ok (.value v) w := by
  simp only [execOp, ho, hx]; rfl
end
end Go.Proofs.YtkcolbeemmnolaaGreatDoor
/-
  Blocks of memory; worlds that differ in one block and in new memory alone; the operations that make and write blocks.
-/
namespace Go.Proofs.YtkcolbeemmnolaaGreatDoor
open Go.RowKit
/-- block b holds the cells cs -/
def Blk (w : World) (b : Nat) (t : TypeId) (cs : Array Value) : Prop := w.heap[b]? = some (.cells cs t (0, 0))
theorem Blk.cell {w : World} {b : Nat} {t : TypeId} {cs : Array Value} (h : Blk w b t cs) (i : Nat) : w.cell? ⟨b, i, none⟩ = cs[i]? := cell_of_row _ _ _ _ _ (0, 0) h
theorem Blk.lt {w : World} {b : Nat} {t : TypeId} {cs : Array Value} (h : Blk w b t cs) : b < w.heap.size := (Array.getElem?_eq_some_iff.1 h).1
theorem Blk.alloc (w : World) (t : TypeId) (cs : Array Value) : Blk (w.alloc (.cells cs t)) w.heap.size t cs := heap_alloc_new w _
theorem Blk.frozen {w : World} {b : Nat} {t : TypeId} {cs : Array Value} (h : Blk w b t cs) (i : Nat) : w.frozen? ⟨b, i, none⟩ = false := by
  unfold World.frozen?
  rw [show w.heap[(⟨b, i, none⟩ : Addr).block]? = some (.cells cs t (0, 0)) from h]
  simp
/-- w' is w but for block b, and new memory: of what lies below B -/
structure Exc (B b : Nat) (w w' : World) : Prop where
  os : w'.os = w.os
  tape : w'.tape = w.tape
  output : w'.output = w.output
  size : w.heap.size ≤ w'.heap.size
  block : ∀ k, k < B → k ≠ b → w'.heap[k]? = w.heap[k]?
theorem Exc.refl (B b : Nat) (w : World) : Exc B b w w := ⟨rfl, rfl, rfl, Nat.le_refl _, fun _ _ _ => rfl⟩
theorem Exc.trans {B b : Nat} {x y z : World} (h : Exc B b x y) (k : Exc B b y z) : Exc B b x z :=
  ⟨k.os.trans h.os, k.tape.trans h.tape, k.output.trans h.output, Nat.le_trans h.size k.size, fun i h1 h2 => (k.block i h1 h2).trans (h.block i h1 h2)⟩
theorem Exc.of {B b : Nat} {x y : World} (h : Below B x y) : Exc B b x y := ⟨h.os, h.tape, h.output, h.size, fun i h1 _ => h.block i h1⟩
theorem Exc.mono {B C b : Nat} {x y : World} (h : Exc C b x y) (hb : B ≤ C) : Exc B b x y := ⟨h.os, h.tape, h.output, h.size, fun i h1 h2 => h.block i (by omega) h2⟩
/-- the block lies above: nothing below has turned -/
theorem Exc.below {B b : Nat} {x y : World} (h : Exc B b x y) (hb : B ≤ b) : Below B x y := ⟨h.os, h.tape, h.output, h.size, fun i h1 => h.block i h1 (by omega)⟩
theorem Blk.exc {B c : Nat} {w w' : World} {b : Nat} {t : TypeId} {cs : Array Value} (h : Blk w b t cs) (e : Exc B c w w') (h1 : b < B) (h2 : b ≠ c) : Blk w' b t cs := (e.block b h1 h2).trans h
theorem Blk.below {B : Nat} {w w' : World} {b : Nat} {t : TypeId} {cs : Array Value} (h : Blk w b t cs) (e : Below B w w') (h1 : b < B) : Blk w' b t cs := (e.block b h1).trans h
/-- a cell of block b set -/
theorem Blk.set {w : World} {b : Nat} {t : TypeId} {cs : Array Value} (h : Blk w b t cs) (i : Nat) (v : Value) : Blk (w.setCell ⟨b, i, none⟩ v) b t (cs.setIfInBounds i v) := by
  unfold Blk World.setCell
  have hl := h.lt
  unfold Blk at h
  simp only [Array.getElem?_modify]
  rw [h]
  simp
theorem exc_set (w : World) (b i : Nat) (v : Value) (B : Nat) : Exc B b w (w.setCell ⟨b, i, none⟩ v) := by
  refine ⟨rfl, rfl, rfl, by simp [World.setCell], fun k _ h2 => ?_⟩
  simp only [World.setCell, Array.getElem?_modify]
  rw [if_neg (fun e => h2 e.symm)]
/-- a grown row: what lies below its base stays -/
theorem exc_grown {w w' : World} {v : Value} {B b : Nat} (h : w.grownBy w' v.ownBlock) (hb : ∀ g, v.ownBlock = some g → B ≤ g) (hB : B ≤ w.heap.size) : Exc B b w w' :=
  ⟨h.os, h.tape, h.output, h.size, fun k h1 _ => h.block k (by omega) (fun e => by have := hb k e.symm; omega)⟩
/-- numbers in a row of the call's own -/
def OwnI (w : World) (base : Nat) (v : Value) (L : List Int) : Prop := w.ownsRow base 3 1 v L.length (L.map fun x => .int .i64 x)
/-- weekdays in a row of the call's own -/
def OwnN (w : World) (base : Nat) (v : Value) (L : List (Int × Int)) : Prop := w.ownsRow base 60 2 v L.length (L.flatMap fun x => [.int .i64 x.1, .int .i64 x.2])
theorem OwnI.nil (w : World) (base : Nat) : OwnI w base (.slice none 0 0) [] := World.ownsRow_nil w base _ 1
theorem OwnN.nil (w : World) (base : Nat) : OwnN w base (.slice none 0 0) [] := World.ownsRow_nil w base _ 2
theorem OwnI.exc {w w' : World} {base B b : Nat} {v : Value} {L : List Int} (h : OwnI w base v L) (e : Exc B b w w') (h1 : ∀ g, v.ownBlock = some g → g < B ∧ g ≠ b) : OwnI w' base v L := by
  refine ⟨h.1, ?_⟩
  rcases h.2 with hn | ⟨g, cap, cur, rfl, hb, hg, rest⟩
  · exact .inl hn
  · obtain ⟨q1, q2⟩ := h1 g rfl
    exact .inr ⟨g, cap, cur, rfl, hb, (e.block g q1 q2).trans hg, rest⟩
theorem OwnN.exc {w w' : World} {base B b : Nat} {v : Value} {L : List (Int × Int)} (h : OwnN w base v L) (e : Exc B b w w') (h1 : ∀ g, v.ownBlock = some g → g < B ∧ g ≠ b) : OwnN w' base v L := by
  refine ⟨h.1, ?_⟩
  rcases h.2 with hn | ⟨g, cap, cur, rfl, hb, hg, rest⟩
  · exact .inl hn
  · obtain ⟨q1, q2⟩ := h1 g rfl
    exact .inr ⟨g, cap, cur, rfl, hb, (e.block g q1 q2).trans hg, rest⟩
theorem flat_get {L : List (Int × Int)} : ∀ (i : Nat) (h : i < L.length), (L.flatMap fun x => [Value.int .i64 x.1, .int .i64 x.2])[i * 2]? = some (.int .i64 L[i].1) ∧ (L.flatMap fun x => [Value.int .i64 x.1, .int .i64 x.2])[i * 2 + 1]? = some (.int .i64 L[i].2) := by
  induction L with
  | nil => intro i h; exact absurd h (Nat.not_lt_zero i)
  | cons x L ih =>
    intro i h
    cases i with
    | zero => simp
    | succ i =>
      have := ih i (by simpa using h)
      rw [show (i + 1) * 2 = i * 2 + 2 by omega, show i * 2 + 2 + 1 = i * 2 + 1 + 2 by omega]
      simpa using this
theorem OwnI.ints {w : World} {base : Nat} {v : Value} {L : List Int} (h : OwnI w base v L) : ∃ A cap, v = .slice A L.length cap ∧ L.length ≤ maxLen ∧ L.length ≤ cap ∧ IntsIn w A L := by
  rcases h.2 with ⟨rfl, hn⟩ | ⟨g, cap, cur, rfl, hb, hg, h1, h2, h3, h4⟩
  · obtain rfl : L = [] := List.eq_nil_of_length_eq_zero hn
    exact ⟨none, 0, rfl, Nat.zero_le _, Nat.zero_le _, fun k hk => absurd hk (Nat.not_lt_zero k)⟩
  · refine ⟨some ⟨g, 0, none⟩, cap, rfl, by omega, h1, fun k hk => ⟨_, rfl, (Array.getElem?_eq_some_iff.1 hg).1, ?_⟩⟩
    have hB : Blk w g _ cur := hg
    have e : (⟨g, 0, none⟩ : Addr).add k = ⟨g, k, none⟩ := by simp [Addr.add]; omega
    rw [e, hB.cell k]
    have : (cur.toList.take (L.length * 1))[k]? = some (.int .i64 L[k]) := by rw [h4]; simp [hk]
    rw [List.getElem?_take] at this
    split at this
    · simpa using this
    · cases this
theorem OwnN.nths {w : World} {base : Nat} {v : Value} {L : List (Int × Int)} (h : OwnN w base v L) : ∃ A cap, v = .slice A L.length cap ∧ L.length ≤ maxLen ∧ L.length ≤ cap ∧ NthsIn w A L := by
  rcases h.2 with ⟨rfl, hn⟩ | ⟨g, cap, cur, rfl, hb, hg, h1, h2, h3, h4⟩
  · obtain rfl : L = [] := List.eq_nil_of_length_eq_zero hn
    exact ⟨none, 0, rfl, Nat.zero_le _, Nat.zero_le _, fun k hk => absurd hk (Nat.not_lt_zero k)⟩
  · refine ⟨some ⟨g, 0, none⟩, cap, rfl, by omega, h1, fun k hk => ⟨_, rfl, (Array.getElem?_eq_some_iff.1 hg).1, ?_⟩⟩
    have hB : Blk w g _ cur := hg
    have e : (⟨g, 0, none⟩ : Addr).add (k * 2) = ⟨g, k * 2, none⟩ := by simp [Addr.add]; omega
    have e' : (⟨g, k * 2, none⟩ : Addr).add 1 = ⟨g, k * 2 + 1, none⟩ := by simp [Addr.add]
    rw [e, e', hB.cell, hB.cell]
    obtain ⟨f1, f2⟩ := flat_get k hk
    rw [← h4, List.getElem?_take] at f1 f2
    rw [if_pos (by omega)] at f1 f2
    exact ⟨by simpa using f1, by simpa using f2⟩
section
variable {w : World} {ρ : Operand → Value} {o : Oper} {x y : Operand} {b i : Nat} {v : Value} {t : TypeId} {cs : Array Value}
theorem k_storeI {n : Int} (ho : o.op = .store 3 x y) (hx : ρ x = .pointer (some ⟨b, i, none⟩)) (hy : ρ y = .int .i64 n) (hb : Blk w b t cs) (hi : i < cs.size) :
    (execOp ρ o).run Tryz.prog w = .ok .skip (w.setCell ⟨b, i, none⟩ (.int .i64 n)) := by
  have hc := hb.cell i
  have hf := hb.frozen i
  rw [Array.getElem?_eq_getElem hi] at hc
  simp only [execOp, ho, hx, hy]
  go_simp
theorem k_storeL {A : Option Addr} {n c : Nat} (ho : o.op = .store 33 x y) (hx : ρ x = .pointer (some ⟨b, i, none⟩)) (hy : ρ y = .slice A n c) (hb : Blk w b t cs) (hi : i < cs.size) :
    (execOp ρ o).run Tryz.prog w = .ok .skip (w.setCell ⟨b, i, none⟩ (.slice A n c)) := by
  have hc := hb.cell i
  have hf := hb.frozen i
  rw [Array.getElem?_eq_getElem hi] at hc
  simp only [execOp, ho, hx, hy]
  go_simp
theorem k_storeW {A : Option Addr} {n c : Nat} (ho : o.op = .store 34 x y) (hx : ρ x = .pointer (some ⟨b, i, none⟩)) (hy : ρ y = .slice A n c) (hb : Blk w b t cs) (hi : i < cs.size) :
    (execOp ρ o).run Tryz.prog w = .ok .skip (w.setCell ⟨b, i, none⟩ (.slice A n c)) := by
  have hc := hb.cell i
  have hf := hb.frozen i
  rw [Array.getElem?_eq_getElem hi] at hc
  simp only [execOp, ho, hx, hy]
  go_simp
theorem k_storeU {n : Int} (ho : o.op = .store 32 x y) (hx : ρ x = .pointer (some ⟨b, i, none⟩)) (hy : ρ y = .int .i64 n) (hb : Blk w b t cs) (hi : i < cs.size) :
    (execOp ρ o).run Tryz.prog w = .ok .skip (w.setCell ⟨b, i, none⟩ (.int .i64 n)) := by
  have hc := hb.cell i
  have hf := hb.frozen i
  rw [Array.getElem?_eq_getElem hi] at hc
  simp only [execOp, ho, hx, hy]
  go_simp
end
end Go.Proofs.YtkcolbeemmnolaaGreatDoor
/-
  Rows of the call's own that grow: one element put behind.
-/
namespace Go.Proofs.YtkcolbeemmnolaaGreatDoor
open Go.RowKit
theorem info_of {T : TypeId} {z : Value} {n b : Nat} (h1 : (Tryz.prog.info? T).map (·.size) = some n) (h2 : (Tryz.prog.info? T).bind (·.zero) = some z) (h3 : (Tryz.prog.info? T).map (·.bytes) = some b) :
    ∃ i, Tryz.prog.info? T = some i ∧ i.zero = some z ∧ i.size = n ∧ i.bytes = b := by
  cases h : Tryz.prog.info? T with
  | none => rw [h] at h1; cases h1
  | some i =>
    rw [h] at h1 h2 h3
    exact ⟨i, rfl, by simpa using h2, by simpa using h1, by simpa using h3⟩
theorem append_int {w : World} {base : Nat} {v : Value} {L : List Int} {x : Int} {g c : Nat} (h : OwnI w base v L) (hx : w.cell? ⟨g, 0, none⟩ = some (.int .i64 x)) (hl : L.length ≤ 1000000) (hB : base ≤ w.heap.size) :
    ∃ v' w', (Builtin.append_ #[33, 33] 33 #[v, .slice (some ⟨g, 0, none⟩) 1 c]).run Tryz.prog w = .ok v' w' ∧ OwnI w' base v' (L ++ [x]) ∧ ∀ B b, B ≤ base → Exc B b w w' := by
  obtain ⟨i, hi, hz, hs, hb⟩ := info_of (T := 3) (z := .int .i64 0) (n := 1) (b := 8) (by kernel_rfl) (by kernel_rfl) (by kernel_rfl)
  obtain ⟨v', w', hr, ho, hg, -⟩ := run_append_own (P := Tryz.prog) w base 33 33 3 i (.int .i64 0) 1 8 Tryz.underlying33 hi hz hs hb rfl (by decide) v L.length _ h ⟨g, 0, none⟩ 1 c [.int .i64 x] rfl
    (fun j u hu => by
      cases j with
      | zero => obtain rfl : Value.int .i64 x = u := by simpa using hu
                exact hx
      | succ j => simp at hu) (by simp [Value.oneCell']) (by unfold maxLen; omega) (by omega) hB
  refine ⟨v', w', hr, ?_, fun B b hBb => exc_grown hg (fun g' hg' => Nat.le_trans hBb (h.lt g' hg').1) (Nat.le_trans hBb hB)⟩
  unfold OwnI
  simpa using ho
theorem append_nth {w : World} {base : Nat} {v : Value} {L : List (Int × Int)} {x y : Int} {g c : Nat} (h : OwnN w base v L) (hx : w.cell? ⟨g, 0, none⟩ = some (.int .i64 x)) (hy : w.cell? ⟨g, 1, none⟩ = some (.int .i64 y)) (hl : L.length ≤ 1000000) (hB : base ≤ w.heap.size) :
    ∃ v' w', (Builtin.append_ #[34, 34] 34 #[v, .slice (some ⟨g, 0, none⟩) 1 c]).run Tryz.prog w = .ok v' w' ∧ OwnN w' base v' (L ++ [(x, y)]) ∧ ∀ B b, B ≤ base → Exc B b w w' := by
  obtain ⟨i, hi, hz, hs, hb⟩ := info_of (T := 60) (z := .agg #[.int .i64 0, .int .i64 0]) (n := 2) (b := 16) (by kernel_rfl) (by kernel_rfl) (by kernel_rfl)
  obtain ⟨v', w', hr, ho, hg, -⟩ := run_append_own (P := Tryz.prog) w base 34 34 60 i (.agg #[.int .i64 0, .int .i64 0]) 2 16 Tryz.underlying34 hi hz hs hb rfl (by decide) v L.length _ h ⟨g, 0, none⟩ 1 c [.int .i64 x, .int .i64 y] rfl
    (fun j u hu => by
      match j with
      | 0 => obtain rfl : Value.int .i64 x = u := by simpa using hu
             exact hx
      | 1 => obtain rfl : Value.int .i64 y = u := by simpa using hu
             exact hy
      | j + 2 => simp at hu) (by simp [Value.oneCell']) (by unfold maxLen; omega) (by omega) hB
  refine ⟨v', w', hr, ?_, fun B b hBb => exc_grown hg (fun g' hg' => Nat.le_trans hBb (h.lt g' hg').1) (Nat.le_trans hBb hB)⟩
  unfold OwnN
  simpa using ho
section
variable {w w' : World} {ρ : Operand → Value} {o : Oper} {x y : Operand} {v s v' : Value} {n : Int}
theorem k_append {T : TypeId} (ho : o.op = .call ⟨.builtin .append, #[x, y], #[T, T]⟩) (ht : o.type = T) (hx : ρ x = v) (hy : ρ y = s) (hr : (Builtin.append_ #[T, T] T #[v, s]).run Tryz.prog w = .ok v' w') :
    (execOp ρ o).run Tryz.prog w = .ok (.value v') w' := by
  have e : (#[x, y] : Array Operand).map ρ = #[v, s] := by simp [hx, hy]
  simp only [execOp, ho, resolve, e, ht, invoke, builtin, Sem.run_bind, Sem.run_pure, Result.andThen_ok, hr]
theorem k_slice1 (ho : o.op = .buildSlice 33 1 #[(0, x)]) (hx : ρ x = .int .i64 n) :
    (execOp ρ o).run Tryz.prog w = .ok (.value (.slice (some ⟨w.heap.size, 0, none⟩) 1 1)) (w.alloc (.cells #[.int .i64 n] 3)) := by
  simp only [execOp, ho]
  go_simp
theorem k_slice2 {m : Int} (ho : o.op = .buildSlice 33 2 #[(0, x), (1, y)]) (hx : ρ x = .int .i64 n) (hy : ρ y = .int .i64 m) :
    (execOp ρ o).run Tryz.prog w = .ok (.value (.slice (some ⟨w.heap.size, 0, none⟩) 2 2)) (w.alloc (.cells #[.int .i64 n, .int .i64 m] 3)) := by
  simp only [execOp, ho]
  go_simp
theorem k_sliceN {m : Int} (ho : o.op = .buildSlice 34 1 #[(0, x)]) (hx : ρ x = .agg #[.int .i64 n, .int .i64 m]) :
    (execOp ρ o).run Tryz.prog w = .ok (.value (.slice (some ⟨w.heap.size, 0, none⟩) 1 1)) (w.alloc (.cells #[.int .i64 n, .int .i64 m] 60)) := by
  simp only [execOp, ho]
  go_simp
theorem k_buildN {m : Int} (ho : o.op = .build 60 #[(0, x), (1, y)]) (hx : ρ x = .int .i64 n) (hy : ρ y = .int .i64 m) :
    (execOp ρ o).run Tryz.prog w = .ok (.value (.agg #[.int .i64 n, .int .i64 m])) w := by
  simp only [execOp, ho]
  go_simp
theorem k_at {T : TypeId} {b k c : Nat} {i : Nat} (hT : T = 33) (ho : o.op = .indexAddr T x y) (hx : ρ x = .slice (some ⟨b, 0, none⟩) k c) (hy : ρ y = .int .i64 i) (hi : i < k) :
    (execOp ρ o).run Tryz.prog w = .ok (.value (.pointer (some ⟨b, i, none⟩))) w := by
  subst hT
  simp only [execOp, ho]
  go_simp
end
end Go.Proofs.YtkcolbeemmnolaaGreatDoor
