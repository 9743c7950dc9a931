/-
  Contract of rule.checkList at weekdays.
-/
import Derived.Test.YtkcolbeemmnolaaGreatDoorR2
import Derived.StillTailTactics
import Derived.BigQuiet
import Derived.IntWalk
namespace Go.Proofs.YtkcolbeemmnolaaGreatDoor
open Go.RowKit

theorem below_drew {B : Nat} {a w : World} (h : Below B a w) : Below B a w.drew := ⟨h.os, h.tape, h.output, h.size, h.block⟩
theorem below_drewN {B : Nat} {a w : World} (h : Below B a w) (n : Nat) : Below B a (w.drewN n) := ⟨h.os, h.tape, h.output, h.size, h.block⟩

/-- a slice's weekdays lie in memory -/
def NthsIn (w : World) (A : Option Addr) (l : List (Int × Int)) : Prop :=
  ∀ k (h : k < l.length), ∃ ad : Addr, A = some ad ∧ ad.block < w.heap.size ∧ w.cell? (ad.add (k * 2)) = some (.int .i64 l[k].1) ∧ w.cell? ((ad.add (k * 2)).add 1) = some (.int .i64 l[k].2)
theorem NthsIn.below {w w' : World} {A : Option Addr} {l : List (Int × Int)} (h : NthsIn w A l) (hb : Below w.heap.size w w') : NthsIn w' A l := fun k hk => by
  obtain ⟨ad, rfl, hlt, hc, hd⟩ := h k hk
  exact ⟨ad, rfl, Nat.lt_of_lt_of_le hlt hb.size, (hb.cell (p := ad.add (k * 2)) (by rw [block_add]; exact hlt)).trans hc, (hb.cell (p := (ad.add (k * 2)).add 1) (by rw [block_add, block_add]; exact hlt)).trans hd⟩

set_option maxHeartbeats 1000000 in
set_option maxRecDepth 100000 in
theorem checkW_any (f : Int) (p : Addr) (A : Option Addr) (l : List (Int × Int)) (cap : Nat) (w : World) (h : NthsIn w A l) (hl : l.length ≤ maxLen) (hc : w.cell? p = some (.int .i64 (Rul.most f))) (hp : p.block < w.heap.size) :
    Calls Tryz.prog 153 #[.slice A l.length cap, .func (.func 152) #[] #[.pointer (some p)], .func (.func 93) #[] #[]] w fun e w' => e = .returned (.int .i64 (Rul.chkL (Rul.inW f) Rul.cmpN l)) ∧ Below w.heap.size w w' := by
  unfold maxLen at hl
  by_cases h64 : 64 < l.length
  · have E := Lib.hid (Rul.chkL_long (p := Rul.inW f) (c := Rul.cmpN) h64)
    go_enter Tryz.func153, Tryz.ntmps153
    go_wp2
    go_ret
    exact ⟨ret_int E.out.symm, Below.refl _ _⟩
  · have E := Lib.hid (Rul.chkL_short (p := Rul.inW f) (c := Rul.cmpN) (l := l) (by omega))
    go_enter Tryz.func153, Tryz.ntmps153
    go_wp2
    go_loopw [14] (fun i wx => ∃ k : Nat, k ≤ l.length ∧ i = .int .i64 k ∧ Hid (Rul.step (Rul.inW f) Rul.cmpN l 0 = Rul.step (Rul.inW f) Rul.cmpN l k) ∧ Below w.heap.size w wx) (fun i _ => l.length - (intOf i).toNat)
    case atStart => exact ⟨0, Nat.zero_le _, rfl, Lib.hid rfl, Below.refl _ _⟩
    case round =>
      obtain ⟨k, hk, rfl, HS, hb⟩ := hrel
      by_cases hlt : k < l.length
      · obtain ⟨ad, rfl, hlb, hc1, hc20⟩ := (h.below hb) k hlt
        have hc2 : wr.cell? ⟨(ad.add (k * 2)).block, (ad.add (k * 2)).off + 1, none⟩ = some (.int .i64 l[k].2) := hc20
        have hcp : wr.cell? p = some (.int .i64 (Rul.most f)) := (hb.cell (p := p) hp).trans hc
        have hpp : p.block < wr.heap.size := Nat.lt_of_lt_of_le hp hb.size
        have hcx : ∀ o, (wr.alloc o).cell? p = some (.int .i64 (Rul.most f)) := fun o => (World.cell?_alloc_lt wr o p hpp).trans hcp
        clear hc20
        cases hq : Rul.inW f l[k]
        · have R := Lib.hid (Rul.step_range (c := Rul.cmpN) hlt hq)
          have HP := Lib.hid hq
          clear hq hcp
          go_wp2_with fail
          refine (inW_any f _ _ _ _ (hcx _) (by simp; omega)).mono ?_
          rintro e w1 ⟨rfl, b1⟩
          rw [HP.out]
          go_wp2
          go_ret
          exact ⟨ret_int (by rw [E.out, HS.out, R.out]), (hb.alloc (hb.size) _).trans (b1.mono (by simp; have := hb.size; omega))⟩
        · by_cases h0 : 0 < k
          · obtain ⟨ad', ha, _, hd10, hd20⟩ := (h.below hb) (k - 1) (by omega)
            obtain rfl : ad = ad' := by injection ha
            clear ha
            have HP := Lib.hid hq
            clear hcp
            by_cases ho : Rul.cmpN (l[k - 1]'(by omega)) l[k] < 0
            · have R := Lib.hid (Rul.step_next (c := Rul.cmpN) hlt hq h0 ho)
              have ho3 : Rul.cmpN ((l[k - 1]'(by omega)).1, (l[k - 1]'(by omega)).2) (l[k].1, l[k].2) < 0 := ho
              clear hq ho
              go_wp2_with fail
              refine (inW_any f _ _ _ _ (hcx _) (by simp; omega)).mono ?_
              rintro e w1 ⟨rfl, b1⟩
              rw [HP.out]
              have B1 : Below w.heap.size w w1 := (hb.alloc (hb.size) _).trans (b1.mono (by simp; have := hb.size; omega))
              have hx1 : w1.cell? ⟨wr.heap.size, 0, none⟩ = some (.int .i64 l[k].1) := (b1.cell (p := ⟨wr.heap.size, 0, none⟩) (by simp)).trans (by simp)
              have hx2 : w1.cell? ⟨wr.heap.size, 1, none⟩ = some (.int .i64 l[k].2) := (b1.cell (p := ⟨wr.heap.size, 1, none⟩) (by simp)).trans (by simp)
              have hd1 : w1.cell? (ad.add ((k - 1) * 2)) = some (.int .i64 (l[k - 1]'(by omega)).1) := (b1.cell (p := ad.add ((k - 1) * 2)) (by simp [block_add]; omega)).trans ((World.cell?_alloc_lt wr _ _ (by rw [block_add]; exact hlb)).trans hd10)
              have hd2 : w1.cell? ⟨(ad.add ((k - 1) * 2)).block, (ad.add ((k - 1) * 2)).off + 1, none⟩ = some (.int .i64 (l[k - 1]'(by omega)).2) := (b1.cell (p := (ad.add ((k - 1) * 2)).add 1) (by simp [block_add]; omega)).trans ((World.cell?_alloc_lt wr _ _ (by rw [block_add, block_add]; exact hlb)).trans hd20)
              clear b1 hcx hc1 hc2 hd10 hd20
              go_wp2_with fail
              have q2 : (0 : Int) ≤ (k : Int) - 1 := by omega
              have q3 : (1 : Int) ≤ (k : Int) := by omega
              have q4 : (k : Int) - 1 < (l.length : Int) := by omega
              have q5 : ((k : Int) - 1).toNat = k - 1 := by omega
              have q1 : IntKind.i64.wrap ((k : Int) - 1) = (k : Int) - 1 := IntWalk.i64_in _ (by omega)
              go_still_tail 10, (by kernel_rfl)
              clear q1 q5
              change wpList _ _ _ _ _ w1.drew
              have B2 := below_drew B1
              generalize w1.drew = w2 at B2
              clear B1 hx1 hx2 hd1 hd2
              go_wp2_with fail
              refine (order_any _ _ _ _ _).mono ?_
              rintro e w3 ⟨rfl, b3⟩
              have B3 : Below w.heap.size w w3 := B2.trans (b3.mono B2.size)
              go_wp2
              go_roundw
              case rel => exact ⟨k + 1, by omega, by go_num, Lib.hid (by rw [HS.out, R.out]), B3⟩
              case measure => simp [intOf]; omega
            · have ho2 : 0 ≤ Rul.cmpN (l[k - 1]'(by omega)) l[k] := by omega
              have R := Lib.hid (Rul.step_order (c := Rul.cmpN) hlt hq h0 ho2)
              have ho3 : 0 ≤ Rul.cmpN ((l[k - 1]'(by omega)).1, (l[k - 1]'(by omega)).2) (l[k].1, l[k].2) := ho2
              clear hq ho ho2
              go_wp2_with fail
              refine (inW_any f _ _ _ _ (hcx _) (by simp; omega)).mono ?_
              rintro e w1 ⟨rfl, b1⟩
              rw [HP.out]
              have B1 : Below w.heap.size w w1 := (hb.alloc (hb.size) _).trans (b1.mono (by simp; have := hb.size; omega))
              have hx1 : w1.cell? ⟨wr.heap.size, 0, none⟩ = some (.int .i64 l[k].1) := (b1.cell (p := ⟨wr.heap.size, 0, none⟩) (by simp)).trans (by simp)
              have hx2 : w1.cell? ⟨wr.heap.size, 1, none⟩ = some (.int .i64 l[k].2) := (b1.cell (p := ⟨wr.heap.size, 1, none⟩) (by simp)).trans (by simp)
              have hd1 : w1.cell? (ad.add ((k - 1) * 2)) = some (.int .i64 (l[k - 1]'(by omega)).1) := (b1.cell (p := ad.add ((k - 1) * 2)) (by simp [block_add]; omega)).trans ((World.cell?_alloc_lt wr _ _ (by rw [block_add]; exact hlb)).trans hd10)
              have hd2 : w1.cell? ⟨(ad.add ((k - 1) * 2)).block, (ad.add ((k - 1) * 2)).off + 1, none⟩ = some (.int .i64 (l[k - 1]'(by omega)).2) := (b1.cell (p := (ad.add ((k - 1) * 2)).add 1) (by simp [block_add]; omega)).trans ((World.cell?_alloc_lt wr _ _ (by rw [block_add, block_add]; exact hlb)).trans hd20)
              clear b1 hcx hc1 hc2 hd10 hd20
              go_wp2_with fail
              have q2 : (0 : Int) ≤ (k : Int) - 1 := by omega
              have q3 : (1 : Int) ≤ (k : Int) := by omega
              have q4 : (k : Int) - 1 < (l.length : Int) := by omega
              have q5 : ((k : Int) - 1).toNat = k - 1 := by omega
              have q1 : IntKind.i64.wrap ((k : Int) - 1) = (k : Int) - 1 := IntWalk.i64_in _ (by omega)
              go_still_tail 10, (by kernel_rfl)
              clear q1 q5
              change wpList _ _ _ _ _ w1.drew
              have B2 := below_drew B1
              generalize w1.drew = w2 at B2
              clear B1 hx1 hx2 hd1 hd2
              go_wp2_with fail
              refine (order_any _ _ _ _ _).mono ?_
              rintro e w3 ⟨rfl, b3⟩
              have B3 : Below w.heap.size w w3 := B2.trans (b3.mono B2.size)
              go_wp2
              go_ret
              exact ⟨ret_int (by rw [E.out, HS.out, R.out]), B3⟩
          · obtain rfl : k = 0 := by omega
            have R := Lib.hid (Rul.step_first (c := Rul.cmpN) hlt hq)
            have HP := Lib.hid hq
            have hc3 : wr.cell? ad = some (.int .i64 l[0].1) := by simpa [Addr.add] using hc1
            have hc4 : wr.cell? ⟨ad.block, ad.off + 1, none⟩ = some (.int .i64 l[0].2) := by simpa [Addr.add] using hc2
            clear hq hc1 hc2 h0 hcp
            go_wp2_with fail
            refine (inW_any f _ _ _ _ (hcx _) (by simp; omega)).mono ?_
            rintro e w1 ⟨rfl, b1⟩
            rw [HP.out]
            have B1 : Below w.heap.size w w1 := (hb.alloc (hb.size) _).trans (b1.mono (by simp; have := hb.size; omega))
            clear b1 hcx hc3 hc4
            go_wp2_with fail
            go_quiet (fail)
            go_wp2
            go_roundw
            case rel => exact ⟨1, by omega, by go_num, Lib.hid (by rw [R.out]), below_drewN B1 _⟩
            case measure => simp [intOf]; omega
      · have R := Lib.hid (Rul.step_end (p := Rul.inW f) (c := Rul.cmpN) hlt)
        go_wp2
        go_ret
        exact ⟨ret_int (by rw [E.out, HS.out, R.out]), hb⟩
end Go.Proofs.YtkcolbeemmnolaaGreatDoor
