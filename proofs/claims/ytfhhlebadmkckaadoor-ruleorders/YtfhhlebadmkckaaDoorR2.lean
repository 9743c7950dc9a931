/-
  Contracts of rule.Order, the closure over weekdays, the law's outside, and rule.checkList at numbers.
-/
import Derived.Test.YtfhhlebadmkckaaDoorR1
import Derived.Handy
namespace Go.Proofs.YtfhhlebadmkckaaDoor
open Go.RowKit

/-- a slice's numbers lie in memory -/
def IntsIn (w : World) (A : Option Addr) (l : List Int) : Prop :=
  ∀ k (h : k < l.length), ∃ ad : Addr, A = some ad ∧ ad.block < w.heap.size ∧ w.cell? (ad.add k) = some (.int .i64 l[k])
theorem block_add (a : Addr) (n : Nat) : (a.add n).block = a.block := by unfold Addr.add; split <;> rfl
theorem IntsIn.below {w w' : World} {A : Option Addr} {l : List Int} (h : IntsIn w A l) (hb : Below w.heap.size w w') : IntsIn w' A l := fun k hk => by
  obtain ⟨ad, rfl, hlt, hc⟩ := h k hk
  exact ⟨ad, rfl, Nat.lt_of_lt_of_le hlt hb.size, (hb.cell (p := ad.add k) (by rw [block_add]; exact hlt)).trans hc⟩

theorem order_any (a b c d : Int) (w : World) : Calls Tryd.prog 7 #[.agg #[.int .i64 a, .int .i64 b], .agg #[.int .i64 c, .int .i64 d]] w fun e w' => e = .returned (.int .i64 (Rul.cmpN (a, b) (c, d))) ∧ Below w.heap.size w w' := by
  by_cases h : Rul.cmpI a c = 0
  · have E := Lib.hid (show Rul.cmpN (a, b) (c, d) = Rul.cmpI b d by simp [Rul.cmpN, h])
    have Z := Lib.hid h
    clear h
    go_enter Tryd.func7, Tryd.ntmps7
    go_wp2_with fail
    refine (compare_int _ _ _).mono ?_
    rintro e w' ⟨rfl, rfl⟩
    rw [Z.out]
    go_wp2_with fail
    refine (compare_int _ _ _).mono ?_
    rintro e w' ⟨rfl, rfl⟩
    go_wp2
    go_ret
    exact ⟨ret_int E.out.symm, by go_grown⟩
  · have E := Lib.hid (show Rul.cmpN (a, b) (c, d) = Rul.cmpI a c by simp [Rul.cmpN, h])
    have h' : (Rul.cmpI a c != 0) = true := by simpa using h
    clear h
    go_enter Tryd.func7, Tryd.ntmps7
    go_wp2_with fail
    refine (compare_int _ _ _).mono ?_
    rintro e w' ⟨rfl, rfl⟩
    go_wp2
    go_ret
    exact ⟨ret_int E.out.symm, by go_grown⟩

theorem inW_any (f n d : Int) (p : Addr) (w : World) (hc : w.cell? p = some (.int .i64 (Rul.most f))) (hp : p.block < w.heap.size) :
    Calls Tryd.prog 39 #[.agg #[.int .i64 n, .int .i64 d], .pointer (some p)] w fun e w' => e = .returned (.bool (Rul.inW f (n, d))) ∧ Below w.heap.size w w' := by
  have hm := Rul.most_bd f
  have hc' : ∀ o, (w.alloc o).cell? p = some (.int .i64 (Rul.most f)) := fun o => (World.cell?_alloc_lt w o p hp).trans hc
  cases hb : Rul.btw d 0 6
  · have E := Lib.hid (show Rul.inW f (n, d) = false by simp [Rul.inW, hb])
    have B := Lib.hid hb
    clear hb
    go_enter Tryd.func39, Tryd.ntmps39
    go_wp2_with fail
    refine (between_any _ _ _ _).mono ?_
    rintro e w' ⟨rfl, rfl⟩
    rw [B.out]
    go_wp2
    go_ret
    exact ⟨ret_bool E.out.symm, by go_grown⟩
  · have E := Lib.hid (show Rul.inW f (n, d) = Rul.btw n (-(Rul.most f)) (Rul.most f) by simp [Rul.inW, hb])
    have B := Lib.hid hb
    clear hb
    go_enter Tryd.func39, Tryd.ntmps39
    go_wp2_with fail
    refine (between_any _ _ _ _).mono ?_
    rintro e w' ⟨rfl, rfl⟩
    rw [B.out]
    go_wp2_with fail
    refine (between_any _ _ _ _).mono ?_
    rintro e w' ⟨rfl, rfl⟩
    go_wp2
    go_ret
    exact ⟨ret_bool E.out.symm, by go_grown⟩

end Go.Proofs.YtfhhlebadmkckaaDoor
