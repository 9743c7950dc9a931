/-
  What the laws over made rules share: the argument, Light, Lists, calls' contracts in one shape.
-/
import Derived.Test.YtocpmljkmdpfkaaGreatDoorMkOk
namespace Go.Proofs.YtocpmljkmdpfkaaGreatDoor
open Go.RowKit
/-- the laws' argument x, whatever its lists' lengths -/
structure XIn0 (w : World) (F I E C U : Int) (AM AD AW AP : Option Addr) (lm ld : List Int) (lw : List (Int × Int)) (lp : List Int) : Prop where
  bF : 0 ≤ F ∧ F ≤ 255
  bI : 0 ≤ I ∧ I ≤ 255
  bE : 0 ≤ E ∧ E ≤ 255
  bC : 0 ≤ C ∧ C ≤ 65535
  bU : 0 ≤ U ∧ U ≤ 4294967295
  m : NumsIn .u8 w AM lm
  d : NumsIn .i8 w AD ld
  k : WksIn w AW lw
  p : NumsIn .i16 w AP lp
  bm : ∀ x ∈ lm, 0 ≤ x ∧ x ≤ 255
  bd : ∀ x ∈ ld, -128 ≤ x ∧ x ≤ 127
  bk : ∀ x ∈ lw, (-128 ≤ x.1 ∧ x.1 ≤ 127) ∧ (0 ≤ x.2 ∧ x.2 ≤ 255)
  bp : ∀ x ∈ lp, -32768 ≤ x ∧ x ≤ 32767
  lm1 : lm.length ≤ maxLen
  ld1 : ld.length ≤ maxLen
  lw1 : lw.length ≤ maxLen
  lp1 : lp.length ≤ maxLen
theorem XIn0.below {w w' : World} {F I E C U : Int} {AM AD AW AP : Option Addr} {lm ld : List Int} {lw : List (Int × Int)} {lp : List Int} (h : XIn0 w F I E C U AM AD AW AP lm ld lw lp) (b : Below w.heap.size w w') : XIn0 w' F I E C U AM AD AW AP lm ld lw lp :=
  ⟨h.bF, h.bI, h.bE, h.bC, h.bU, h.m.below b, h.d.below b, h.k.below b, h.p.below b, h.bm, h.bd, h.bk, h.bp, h.lm1, h.ld1, h.lw1, h.lp1⟩
def light (lm ld : List Int) (lw : List (Int × Int)) (lp : List Int) : Bool := decide (lm.length ≤ 20 ∧ ld.length ≤ 20 ∧ lw.length ≤ 20 ∧ lp.length ≤ 20)
theorem XIn0.full {w : World} {F I E C U : Int} {AM AD AW AP : Option Addr} {lm ld : List Int} {lw : List (Int × Int)} {lp : List Int} (h : XIn0 w F I E C U AM AD AW AP lm ld lw lp) (l : light lm ld lw lp = true) : XIn w F I E C U AM AD AW AP lm ld lw lp := by
  have l' : lm.length ≤ 20 ∧ ld.length ≤ 20 ∧ lw.length ≤ 20 ∧ lp.length ≤ 20 := by simpa [light] using l
  exact ⟨h.bF, h.bI, h.bE, h.bC, h.bU, h.m, h.d, h.k, h.p, h.bm, h.bd, h.bk, h.bp, by omega, by omega, by omega, by omega⟩
set_option maxHeartbeats 1000000 in
theorem light_any (x0 x1 x2 x3 x4 : Value) (AM AD AW AP : Option Addr) (cM cD cW cP : Nat) (lm ld : List Int) (lw : List (Int × Int)) (lp : List Int) (w : World) (h1 : lm.length ≤ maxLen) (h2 : ld.length ≤ maxLen) (h3 : lw.length ≤ maxLen) (h4 : lp.length ≤ maxLen) :
    Calls Tryz.prog 8 #[.agg #[x0, x1, x2, x3, x4, .slice AM lm.length cM, .slice AD ld.length cD, .slice AW lw.length cW, .slice AP lp.length cP]] w fun e w' => ∃ v, e = .returned v ∧ v = .bool (light lm ld lw lp) ∧ Below w.heap.size w w' := by
  have hB : ∀ o, Below w.heap.size w (w.alloc o) := fun o => (Below.refl _ _).alloc (Nat.le_refl _) _
  unfold maxLen at h1 h2 h3 h4
  by_cases a1 : lm.length ≤ 20
  · by_cases a2 : ld.length ≤ 20
    · by_cases a3 : lw.length ≤ 20
      · by_cases a4 : lp.length ≤ 20
        · have e := Lib.hid (show light lm ld lw lp = true by simp [light, a1, a2, a3, a4])
          go_enter Tryz.func8, Tryz.ntmps8
          go_wp2
          go_ret
          exact ⟨_, rfl, by rw [e.out]; first | rfl | (simp; omega), hB _⟩
        · have e := Lib.hid (show light lm ld lw lp = false by simp [light]; omega)
          go_enter Tryz.func8, Tryz.ntmps8
          go_wp2
          go_ret
          exact ⟨_, rfl, by rw [e.out]; first | rfl | (simp; omega), hB _⟩
      · have e := Lib.hid (show light lm ld lw lp = false by simp [light]; omega)
        go_enter Tryz.func8, Tryz.ntmps8
        go_wp2
        go_ret
        exact ⟨_, rfl, by rw [e.out]; first | rfl | (simp; omega), hB _⟩
    · have e := Lib.hid (show light lm ld lw lp = false by simp [light]; omega)
      go_enter Tryz.func8, Tryz.ntmps8
      go_wp2
      go_ret
      exact ⟨_, rfl, by rw [e.out]; first | rfl | (simp; omega), hB _⟩
  · have e := Lib.hid (show light lm ld lw lp = false by simp [light]; omega)
    go_enter Tryz.func8, Tryz.ntmps8
    go_wp2
    go_ret
    exact ⟨_, rfl, by rw [e.out]; first | rfl | (simp; omega), hB _⟩
theorem k_load9 {w : World} {ρ : Operand → Value} {o : Oper} {x : Operand} {b : Nat} {x0 x1 x2 x3 x4 x5 x6 x7 x8 : Value} (ho : o.op = .load 29 x) (hx : ρ x = .pointer (some ⟨b, 0, none⟩)) (h : Blk w b 29 #[x0, x1, x2, x3, x4, x5, x6, x7, x8]) :
    (execOp ρ o).run Tryz.prog w = .ok (.value (.agg #[x0, x1, x2, x3, x4, x5, x6, x7, x8])) w := by
  have c0 := h.cell 0; have c1 := h.cell 1; have c2 := h.cell 2; have c3 := h.cell 3; have c4 := h.cell 4; have c5 := h.cell 5; have c6 := h.cell 6; have c7 := h.cell 7; have c8 := h.cell 8
  simp only [execOp, ho, hx]
  go_simp
/-- the made lists, as Check reads them -/
theorem Four.lists {w : World} {n0 : Nat} {A1 A2 A3 A4 : Option Addr} {c1 c2 c3 c4 : Nat} {M D : List Int} {K : List (Int × Int)} {P : List Int} {tD tW tP : Nat} (h : Four w n0 A1 A2 A3 A4 c1 c2 c3 c4 M D K P tD tW tP) : ListsIn w A1 A2 A3 A4 M D K P := by
  obtain ⟨_, _, e1, l1, -, i1⟩ := h.oM.ints
  obtain ⟨rfl, -, -⟩ := Value.slice.inj e1
  obtain ⟨_, _, e2, l2, -, i2⟩ := h.oD.ints
  obtain ⟨rfl, -, -⟩ := Value.slice.inj e2
  obtain ⟨_, _, e3, l3, -, i3⟩ := h.oW.nths
  obtain ⟨rfl, -, -⟩ := Value.slice.inj e3
  obtain ⟨_, _, e4, l4, -, i4⟩ := h.oP.ints
  obtain ⟨rfl, -, -⟩ := Value.slice.inj e4
  exact ⟨i1, i2, i3, i4, l1, l2, l3, l4⟩
theorem Four.below {w w' : World} {n0 : Nat} {A1 A2 A3 A4 : Option Addr} {c1 c2 c3 c4 : Nat} {M D : List Int} {K : List (Int × Int)} {P : List Int} {tD tW tP : Nat} (h : Four w n0 A1 A2 A3 A4 c1 c2 c3 c4 M D K P tD tW tP) (l : Below w.heap.size w w') : Four w' n0 A1 A2 A3 A4 c1 c2 c3 c4 M D K P tD tW tP :=
  ⟨h.oM.below l, h.gM, h.oD.below l, h.gD, h.oW.below l, h.gW, h.oP.below l, h.hD, h.hW, h.hP⟩
theorem Four.exc {w w' : World} {n0 T b : Nat} {A1 A2 A3 A4 : Option Addr} {c1 c2 c3 c4 : Nat} {M D : List Int} {K : List (Int × Int)} {P : List Int} {tD tW tP : Nat} (h : Four w n0 A1 A2 A3 A4 c1 c2 c3 c4 M D K P tD tW tP) (e : Exc w.heap.size b w w') (hb : b < n0 ∨ T ≤ b)
    (m1 : ∀ g, (Value.slice A1 M.length c1).ownBlock = some g → g < T) (m2 : ∀ g, (Value.slice A2 D.length c2).ownBlock = some g → g < T) (m3 : ∀ g, (Value.slice A3 K.length c3).ownBlock = some g → g < T) (m4 : ∀ g, (Value.slice A4 P.length c4).ownBlock = some g → g < T) : Four w' n0 A1 A2 A3 A4 c1 c2 c3 c4 M D K P tD tW tP :=
  ⟨h.oM.exc e (fun g hg => ⟨(h.oM.lt g hg).2, by have := (h.oM.lt g hg).1; have := m1 g hg; omega⟩), h.gM, h.oD.exc e (fun g hg => ⟨(h.oD.lt g hg).2, by have := (h.oD.lt g hg).1; have := m2 g hg; have := h.hD; omega⟩), h.gD,
   h.oW.exc e (fun g hg => ⟨(h.oW.lt g hg).2, by have := (h.oW.lt g hg).1; have := m3 g hg; have := h.hD; have := h.hW; omega⟩), h.gW, h.oP.exc e (fun g hg => ⟨(h.oP.lt g hg).2, by have := (h.oP.lt g hg).1; have := m4 g hg; have := h.hD; have := h.hW; have := h.hP; omega⟩), h.hD, h.hW, h.hP⟩
theorem o_eqE {w : World} {ρ : Operand → Value} {o : Oper} {x y : Operand} {n m : Int} {q : Bool} (ho : o.op = .binOp .eql 39 x y 39) (hx : ρ x = .int .i64 n) (hy : ρ y = .int .i64 m) (hr : (n == m) = q) : (execOp ρ o).run Tryz.prog w = .ok (.value (.bool q)) w := by
  subst hr
  simp only [execOp, ho, hx, hy]
  go_simp
end Go.Proofs.YtocpmljkmdpfkaaGreatDoor
namespace Go.Proofs.YtocpmljkmdpfkaaGreatDoor
open Go.RowKit
theorem make_any' (F I E C U : Int) (AM AD AW AP : Option Addr) (cM cD cW cP : Nat) (lm ld : List Int) (lw : List (Int × Int)) (lp : List Int) (w0 : World) (hX : XIn w0 F I E C U AM AD AW AP lm ld lw lp) :
    Calls Tryz.prog 9 #[.agg #[.int .u8 F, .int .u8 I, .int .u8 E, .int .u16 C, .int .u32 U, .slice AM lm.length cM, .slice AD ld.length cD, .slice AW lw.length cW, .slice AP lp.length cP]] w0 fun e w' => ∃ v, e = .returned v ∧ ∃ A1 A2 A3 A4 c1 c2 c3 c4 tD tW tP, v = .agg #[.int .i64 (F.tmod 4), .int .i64 (Mk.iv I), .int .i64 (Mk.cnt E C), .int .i64 (Mk.unt E U), .slice A1 (Mk.mon lm).length c1, .slice A2 (Mk.D F ld).length c2, .slice A3 ((Mk.W F lw).map (·.1)).length c3, .slice A4 (Mk.P F lm ld lw lp).length c4] ∧ Four w' w0.heap.size A1 A2 A3 A4 c1 c2 c3 c4 (Mk.mon lm) (Mk.D F ld) ((Mk.W F lw).map (·.1)) (Mk.P F lm ld lw lp) tD tW tP ∧ Below w0.heap.size w0 w' :=
  (make_any F I E C U AM AD AW AP cM cD cW cP lm ld lw lp w0 hX).mono fun _ _ ⟨A1, A2, A3, A4, c1, c2, c3, c4, tD, tW, tP, h1, h2, h3⟩ => ⟨_, h1, A1, A2, A3, A4, c1, c2, c3, c4, tD, tW, tP, rfl, h2, h3⟩
end Go.Proofs.YtocpmljkmdpfkaaGreatDoor
