/-
  Slices cut at the front and at the end.
-/
import Derived.Test.YtfhhlebadmkckaaDoorLaws0
import Derived.Test.YtfhhlebadmkckaaDoorLate
namespace Go.Proofs.YtfhhlebadmkckaaDoor
open Go.RowKit
section
variable {w : World} {ρ : Operand → Value} {o : Oper} {x y : Operand} {g n c k : Nat}
theorem k_to (ho : o.op = .slice 36 x none (some y) none) (hx : ρ x = .slice (some ⟨g, 0, none⟩) n c) (hy : ρ y = .int .i64 k) (h1 : k ≤ n) (h2 : n ≤ c) : (execOp ρ o).run Tryd.prog w = .ok (.value (.slice (some ⟨g, 0, none⟩) k c)) w := by
  simp only [execOp, ho, hx]
  go_simp
  intro h
  omega
theorem k_from (ho : o.op = .slice 36 x (some y) none none) (hx : ρ x = .slice (some ⟨g, 0, none⟩) n c) (hy : ρ y = .int .i64 k) (h1 : k ≤ n) (h3 : k < c) : (execOp ρ o).run Tryd.prog w = .ok (.value (.slice (some ⟨g, k, none⟩) (n - k) (c - k))) w := by
  simp only [execOp, ho, hx]
  go_simp
  intro h
  omega
theorem k_fromC (ho : o.op = .slice 36 x (some y) none none) (hx : ρ x = .slice (some ⟨g, 0, none⟩) c c) (hy : ρ y = .int .i64 c) : (execOp ρ o).run Tryd.prog w = .ok (.value (.slice (some ⟨g, 0, none⟩) 0 0)) w := by
  simp only [execOp, ho, hx]
  go_simp
theorem k_toN (ho : o.op = .slice 36 x none (some y) none) (hx : ρ x = .slice none 0 0) (hy : ρ y = .int .i64 0) : (execOp ρ o).run Tryd.prog w = .ok (.value (.slice none 0 0)) w := by
  simp only [execOp, ho, hx]
  go_simp
theorem k_fromN (ho : o.op = .slice 36 x (some y) none none) (hx : ρ x = .slice none 0 0) (hy : ρ y = .int .i64 0) : (execOp ρ o).run Tryd.prog w = .ok (.value (.slice none 0 0)) w := by
  simp only [execOp, ho, hx]
  go_simp
theorem k_fromW (ho : o.op = .slice 37 x (some y) none none) (hx : ρ x = .slice (some ⟨g, 0, none⟩) n c) (hy : ρ y = .int .i64 k) (h1 : k ≤ n) (h3 : k < c) : (execOp ρ o).run Tryd.prog w = .ok (.value (.slice (some ⟨g, k * 2, none⟩) (n - k) (c - k))) w := by
  simp only [execOp, ho, hx]
  go_simp
  intro h
  omega
theorem k_fromWC (ho : o.op = .slice 37 x (some y) none none) (hx : ρ x = .slice (some ⟨g, 0, none⟩) c c) (hy : ρ y = .int .i64 c) : (execOp ρ o).run Tryd.prog w = .ok (.value (.slice (some ⟨g, 0, none⟩) 0 0)) w := by
  simp only [execOp, ho, hx]
  go_simp
theorem k_fromWN (ho : o.op = .slice 37 x (some y) none none) (hx : ρ x = .slice none 0 0) (hy : ρ y = .int .i64 0) : (execOp ρ o).run Tryd.prog w = .ok (.value (.slice none 0 0)) w := by
  simp only [execOp, ho, hx]
  go_simp
end
/-- where a slice lies that is cut at the front -/
def cutA (A : Option Addr) (c k s : Nat) : Option Addr := if k < c then A.map fun a => ⟨a.block, a.off + k * s, none⟩ else A
/-- how many are cut off, or left -/
def cutN (a : Int) (n : Nat) : Nat := a.toNat % (n + 1)
theorem cutN_le (a : Int) (n : Nat) : cutN a n ≤ n := by unfold cutN; have := Nat.mod_lt a.toNat (show 0 < n + 1 by omega); omega
theorem cutN_eq {a : Int} {n : Nat} (h : 0 ≤ a) : a.tmod ((n : Int) + 1) = (cutN a n : Int) := by
  rw [Int.tmod_eq_emod_of_nonneg h]
  unfold cutN
  rw [Int.natCast_emod, Int.toNat_of_nonneg h]
  rfl
section
variable {w w0 : World} {ρ : Operand → Value} {o : Oper} {x y : Operand} {base c k : Nat} {A : Option Addr}
theorem k_dropI {L : List Int} (ho : o.op = .slice 36 x (some y) none none) (hx : ρ x = .slice A L.length c) (hy : ρ y = .int .i64 k) (hO : OwnI w0 base (.slice A L.length c) L) (h1 : k ≤ L.length) :
    (execOp ρ o).run Tryd.prog w = .ok (.value (.slice (cutA A c k 1) (L.drop k).length (c - k))) w := by
  rcases hO.2 with ⟨e, hn⟩ | ⟨g, cap, cur, e, -, -, h2, -⟩
  · obtain ⟨rfl, -, rfl⟩ := Value.slice.inj e
    obtain rfl : L = [] := List.eq_nil_of_length_eq_zero hn
    obtain rfl : k = 0 := by simpa using h1
    rw [k_fromN ho hx hy]
    rfl
  · obtain ⟨rfl, -, rfl⟩ := Value.slice.inj e
    rw [List.length_drop]
    by_cases hk : k < c
    · rw [k_from ho hx hy h1 hk]
      simp [cutA, hk]
    · obtain rfl : k = c := by omega
      have hl : L.length = k := by omega
      rw [hl] at hx
      rw [k_fromC ho hx hy]
      simp [cutA, hl]
theorem k_dropW {L : List (Int × Int)} (ho : o.op = .slice 37 x (some y) none none) (hx : ρ x = .slice A L.length c) (hy : ρ y = .int .i64 k) (hO : OwnN w0 base (.slice A L.length c) L) (h1 : k ≤ L.length) :
    (execOp ρ o).run Tryd.prog w = .ok (.value (.slice (cutA A c k 2) (L.drop k).length (c - k))) w := by
  rcases hO.2 with ⟨e, hn⟩ | ⟨g, cap, cur, e, -, -, h2, -⟩
  · obtain ⟨rfl, -, rfl⟩ := Value.slice.inj e
    obtain rfl : L = [] := List.eq_nil_of_length_eq_zero hn
    obtain rfl : k = 0 := by simpa using h1
    rw [k_fromWN ho hx hy]
    rfl
  · obtain ⟨rfl, -, rfl⟩ := Value.slice.inj e
    rw [List.length_drop]
    by_cases hk : k < c
    · rw [k_fromW ho hx hy h1 hk]
      simp [cutA, hk]
    · obtain rfl : k = c := by omega
      have hl : L.length = k := by omega
      rw [hl] at hx
      rw [k_fromWC ho hx hy]
      simp [cutA, hl]
theorem k_takeI {L : List Int} (ho : o.op = .slice 36 x none (some y) none) (hx : ρ x = .slice A L.length c) (hy : ρ y = .int .i64 k) (hO : OwnI w0 base (.slice A L.length c) L) (h1 : k ≤ L.length) :
    (execOp ρ o).run Tryd.prog w = .ok (.value (.slice A (L.take k).length c)) w := by
  rcases hO.2 with ⟨e, hn⟩ | ⟨g, cap, cur, e, -, -, h2, -⟩
  · obtain ⟨rfl, -, rfl⟩ := Value.slice.inj e
    obtain rfl : L = [] := List.eq_nil_of_length_eq_zero hn
    obtain rfl : k = 0 := by simpa using h1
    rw [k_toN ho hx hy]
    rfl
  · obtain ⟨rfl, -, rfl⟩ := Value.slice.inj e
    rw [List.length_take, Nat.min_eq_left h1]
    exact k_to ho hx hy h1 h2
end
theorem add_lit (g o k : Nat) : (⟨g, o, none⟩ : Addr).add k = ⟨g, o + k, none⟩ := by simp [Addr.add]
theorem IntsIn.take {w : World} {A : Option Addr} {L : List Int} (h : IntsIn w A L) (k : Nat) : IntsIn w A (L.take k) := fun j hj => by
  have hj' : j < L.length := by rw [List.length_take] at hj; omega
  obtain ⟨ad, e, h1, h2⟩ := h j hj'
  exact ⟨ad, e, h1, by rw [List.getElem_take]; exact h2⟩
theorem OwnI.dropIn {w : World} {base c k : Nat} {A : Option Addr} {L : List Int} (h : OwnI w base (.slice A L.length c) L) : IntsIn w (cutA A c k 1) (L.drop k) := fun j hj => by
  have hj' : k + j < L.length := by rw [List.length_drop] at hj; omega
  obtain ⟨A', cap, e, -, hc, hi⟩ := h.ints
  obtain ⟨rfl, -, rfl⟩ := Value.slice.inj e
  obtain ⟨ad, e, h1, h2⟩ := hi (k + j) hj'
  rcases h.2 with ⟨e', hn⟩ | ⟨g, cap, cur, e', -⟩
  · omega
  · obtain ⟨rfl, -, -⟩ := Value.slice.inj e'
    obtain rfl := Option.some.inj e
    refine ⟨⟨g, 0 + k * 1, none⟩, by simp [cutA]; omega, h1, ?_⟩
    rw [List.getElem_drop, ← h2, add_lit, add_lit, show 0 + k * 1 + j = 0 + (k + j) by omega]
theorem OwnN.dropIn {w : World} {base c k : Nat} {A : Option Addr} {L : List (Int × Int)} (h : OwnN w base (.slice A L.length c) L) : NthsIn w (cutA A c k 2) (L.drop k) := fun j hj => by
  have hj' : k + j < L.length := by rw [List.length_drop] at hj; omega
  obtain ⟨A', cap, e, -, hc, hi⟩ := h.nths
  obtain ⟨rfl, -, rfl⟩ := Value.slice.inj e
  obtain ⟨ad, e, h1, h2, h3⟩ := hi (k + j) hj'
  rcases h.2 with ⟨e', hn⟩ | ⟨g, cap, cur, e', -⟩
  · omega
  · obtain ⟨rfl, -, -⟩ := Value.slice.inj e'
    obtain rfl := Option.some.inj e
    refine ⟨⟨g, 0 + k * 2, none⟩, by simp [cutA]; omega, h1, ?_, ?_⟩
    · rw [List.getElem_drop, ← h2, add_lit, add_lit, show 0 + k * 2 + j * 2 = 0 + (k + j) * 2 by omega]
    · rw [List.getElem_drop, ← h3, add_lit, add_lit, add_lit, add_lit, show 0 + k * 2 + j * 2 + 1 = 0 + (k + j) * 2 + 1 by omega]
/-- of what Make makes, cut: positions alone are ErrKind, else it may be -/
theorem fewer_check {f iv c u : Int} {M D : List Int} {W : List (Int × Int)} {P : List Int} (a b k d : Nat) (h1 : Lst Rul.inM Rul.cmpI M) (h2 : Lst Rul.inD Rul.cmpI D) (h3 : Lst (Rul.inW f) Rul.cmpN W) (h4 : Lst Rul.inP Rul.cmpI P)
    (l1 : M.length ≤ 64) (l2 : D.length ≤ 64) (l3 : W.length ≤ 64) (l4 : P.length ≤ 64) (hf : Rul.noFreq f = false) (hD : f = 1 → D = []) (hn : Rul.badNum iv c u = false) (hb : (c != 0 && u != 0) = false) :
    Rul.check f iv c u (M.drop a) (D.take b) (W.drop k) (P.take d) = if decide (0 < (P.take d).length) && !(some3 (M.drop a) (D.take b) (W.drop k)) then 6 else 0 := by
  have b3 : Rul.lists f (M.drop a) (D.take b) (W.drop k) (P.take d) = 0 := by
    simp only [Rul.lists, (h1.drop a).chk (by rw [List.length_drop]; omega), (h2.take b).chk (by rw [List.length_take]; omega), (h3.drop k).chk (by rw [List.length_drop]; omega), (h4.take d).chk (by rw [List.length_take]; omega)]
    rfl
  have a1 : (f == 1 && decide (0 < (D.take b).length)) = false := by
    by_cases hf : f = 1
    · rw [hD hf]; simp
    · simp [hf]
  unfold Rul.check Rul.nums
  rw [hf, hn, hb, b3]
  unfold Rul.odd
  rw [a1, Bool.false_or]
  rfl
end Go.Proofs.YtfhhlebadmkckaaDoor
